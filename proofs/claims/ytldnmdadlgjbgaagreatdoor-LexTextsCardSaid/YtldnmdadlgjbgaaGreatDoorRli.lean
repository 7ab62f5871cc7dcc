/- The reference: the tokens of a line. -/
import Derived.Test.YtldnmdadlgjbgaaGreatDoorRlh
import Derived.Test.YtldnmdadlgjbgaaGreatDoorRle
set_option linter.unusedVariables false
set_option linter.unusedSimpArgs false
namespace Go.Proofs.YtldnmdadlgjbgaaGreatDoor
open Go Go.RowKit L8

theorem may_okx {t : Tk} (h : may t = true) (hn : OKn t) : OKx t := by
  have hk : ∀ s ∈ keys, s.length ≤ 20 := by decide
  have hs : ∀ s ∈ syms, s.length ≤ 20 := by decide
  obtain ⟨_, _, hp⟩ := may_parts h
  have e : t.tx.length ≤ 40 ∧ t.k < 256 := by
    rcases hp with ⟨h1, h2, _⟩ | ⟨h1, h2, _⟩ | ⟨h1, h2⟩ | ⟨h1, h2, _⟩ | ⟨h1, h2, _⟩
    · unfold isName at h2
      simp only [Bool.and_eq_true, decide_eq_true_eq] at h2
      omega
    · have := hk _ (isKey_mem h2); omega
    · rw [h2]; simp; omega
    · rw [h2]; simp; omega
    · have := hs _ (isSym_mem h2); omega
  exact ⟨by unfold maxLen; omega, e.2, hn.1, hn.2⟩
/-- What Tokens gives. -/
def GivesT (w : World) (s : Bs) (e : Ending) (w' : World) : Prop := ∃ A c, e = .returned (.tuple #[.slice A (tokens s).1.length c, .int .i64 (tokens s).2.1, .int .i64 (tokens s).2.2]) ∧ OwnR w' 26 w.heap.size A (tokens s).1.length c (tokens s).1 ∧ Below w.heap.size w w'
theorem tokens_long {s : Bs} (h : 256 < s.length) : tokens s = ([], 0, 3) := by unfold tokens; rw [if_pos h]
theorem tokens_err {s : Bs} {p : Nat} (h : ¬ 256 < s.length) (ht : toks s 0 = .error p) : tokens s = ([], (p : Int), 80) := by unfold tokens; rw [if_neg h, ht]
theorem tokens_ok {s : Bs} {l : List Tk} (h : ¬ 256 < s.length) (ht : toks s 0 = .ok l) : tokens s = (l, 0, 0) := by unfold tokens; rw [if_neg h, ht]
theorem givesT_err {w w' : World} {s : Bs} {n e : Int} (h : tokens s = ([], n, e)) (hb : Below w.heap.size w w') : GivesT w s (.returned (.tuple #[.slice none 0 0, .int .i64 n, .int .i64 e])) w' := by
  unfold GivesT
  rw [h]
  exact ⟨none, 0, rfl, ownR_nil w' _ _, hb⟩
def addT (out : List Tk) : Except Nat (List Tk) → Except Nat (List Tk)
  | .error e => .error e
  | .ok l => .ok (out ++ l)
theorem addT_snoc (out : List Tk) (x : Tk) (q : Except Nat (List Tk)) : addT out (match q with | .error e => .error e | .ok l => .ok (x :: l)) = addT (out ++ [x]) q := by
  cases q with
  | error e => rfl
  | ok l => simp [addT]
set_option maxRecDepth 100000 in
set_option maxHeartbeats 16000000 in
theorem RTokens_any (s : Bs) (hl : s.length ≤ maxLen) (w : World) : Calls Tryz.prog 15 #[.string (strOf s)] w (GivesT w s) := by
  have hsz := size_strOf s
  obtain ⟨N, hN⟩ : ∃ N, s.length = N := ⟨_, rfl⟩
  rw [hN] at hsz hl
  unfold maxLen at hl
  by_cases h256 : (256 : Int) < (N : Int)
  · have HE := Lib.hid (givesT_err (w := w) (tokens_long (s := s) (by omega)) (b0 w))
    clear hN
    go_enter Tryz.func15, Tryz.ntmps15
    go_wp2
    go_ret3
    exact HE.out
  · have HErr := Lib.hid (fun (p : Nat) (w' : World) (h : toks s 0 = .error p) (b : Below w.heap.size w w') => givesT_err (w := w) (w' := w') (tokens_err (s := s) (by omega) h) b)
    have HOk := Lib.hid (fun (l : List Tk) (h : toks s 0 = .ok l) => tokens_ok (s := s) (by omega) h)
    have HI := Lib.hid (fun (p : Nat) (h : p < N) => index_l s p (by omega))
    have HC := Lib.hid (fun (p : Nat) (h : p ≤ N) => cut_from s p (by omega))
    have HD := Lib.hid (fun (p : Nat) (h : p < N) => show ∃ c r, s.drop p = c :: r ∧ s.getD p 0 = c ∧ r = s.drop (p + 1) ∧ (c :: r).length = N - p from by
      refine ⟨s[p], s.drop (p + 1), List.drop_eq_getElem_cons (by omega), by simp [show p < s.length by omega], rfl, ?_⟩
      rw [← List.drop_eq_getElem_cons (by omega), List.length_drop]; omega)
    have HN := Lib.hid hN
    have hN2 : (N : Int) ≤ 256 := by omega
    clear hN hl
    go_enter Tryz.func15, Tryz.ntmps15
    go_wp2
    go_loopw [5, 6] (fun v i wr => ∃ p m c2 : Nat, ∃ A, p ≤ N ∧ m ≤ p ∧ i = .int .i64 p ∧ v = .slice A m c2 ∧ Hid (Below w.heap.size w wr ∧ ∃ out, OwnR wr 26 w.heap.size A m c2 out ∧ toks s 0 = addT out (toks (s.drop p) p))) (fun _ i _ => N - (intOf i).toNat)
    case atStart => exact ⟨0, 0, 0, none, Nat.zero_le _, Nat.le_refl _, rfl, rfl, Lib.hid ⟨b0 w, [], ownR_nil w _ _, by rw [List.drop_zero]; cases toks s 0 <;> rfl⟩⟩
    case round =>
      obtain ⟨p, m, c2, A, hp, hmp, rfl, rfl, H⟩ := hrel
      have hp0 : (0 : Int) ≤ (p : Int) := by omega
      by_cases hp1 : (p : Int) < (N : Int)
      · obtain ⟨c, r, e1, e2, e3, e4⟩ := HD.out p (by omega)
        have hi := HI.out p (by omega)
        rw [e2] at hi
        by_cases hc : c = 32
        · have q1 : ((c.toNat : Int) == 32) = true := by rw [hc]; rfl
          have HE : Hid (Below w.heap.size w wr ∧ ∃ out, OwnR wr 26 w.heap.size A m c2 out ∧ toks s 0 = addT out (toks (s.drop (p + 1)) (p + 1))) := Lib.hid (by
            obtain ⟨g1, out, g2, g3⟩ := H.out
            refine ⟨g1, out, g2, ?_⟩
            rw [g3, e1, hc, toks_sp, e3])
          clear H e1 e2 e3 e4 hc
          generalize c.toNat = C0 at *
          go_wp2
          go_roundw
          case rel => exact ⟨p + 1, m, c2, A, by omega, by omega, by go_num, rfl, HE⟩
          case measure => simp [intOf]; omega
        · have q1 : ((c.toNat : Int) == 32) = false := by
            have := byte_eq c 32 (by decide) 32 rfl
            rw [decide_eq_false hc] at this
            exact this
          have hct := HC.out p (by omega)
          rw [e1] at hct
          have C := Lib.hid (fun (W : World) => Rtoken_any c r (by omega) W)
          cases ht : L8.token (c :: r) with
          | none =>
            rw [ht] at C
            have HE : Hid (toks s 0 = .error p) := Lib.hid (by
              obtain ⟨g1, out, g2, g3⟩ := H.out
              rw [g3, e1, toks_bad hc ht]
              rfl)
            have HB := Lib.hid H.out.1
            clear H e1 e2 e3 e4 hc ht
            generalize c.toNat = C0 at *
            generalize strOf (c :: r) = S1 at *
            go_wp2_with (go_at_call 36; (with_reducible refine (C.out _).mono ?_); rintro e v1 ⟨rfl, b⟩; have B1 := Lib.hid (blw HB.out b); clear b)
            go_ret3
            exact HErr.out _ _ HE.out (bal B1.out _)
          | some q =>
            obtain ⟨k, tx, v, n⟩ := q
            rw [ht] at C
            unfold TR at C
            dsimp only at C
            have hln := token_len ht
            rw [e4] at hln
            have hx : OKx ⟨k, (p : Int), tx, v⟩ := by
              obtain ⟨g1, g2⟩ := token_may ht
              exact may_okx (g1 (p : Int) (by omega) (by omega)) g2
            have hn1 : ((n : Int) == 0) = false := by simp; omega
            have hn2 : (n : Int) ≤ (N : Int) - (p : Int) := by omega
            have hn3 : (0 : Int) ≤ (n : Int) := by omega
            have HT : Hid (∀ out, addT out (toks (s.drop p) p) = addT (out ++ [⟨k, (p : Int), tx, v⟩]) (toks (s.drop (p + n)) (p + n))) := Lib.hid fun out => by
              rw [e1, toks_tok hc ht, ← e1, List.drop_drop]
              exact addT_snoc out _ _
            have HB := Lib.hid H.out
            clear H e1 e2 e3 e4 hc ht
            have r1 : ∀ W : World, RR ((W.alloc (.cells #[.int .u8 (k : Int), .int .i64 (p : Int), .string (strOf tx), .int .i32 v] 26)).alloc (.cells #[.int .u8 (k : Int), .int .i64 (p : Int), .string (strOf tx), .int .i32 v] 26)) (some ⟨W.heap.size + 1, 0, none⟩) 1 [⟨k, (p : Int), tx, v⟩] := fun W => by
              have h := rr_one (w := (W.alloc (.cells #[.int .u8 (k : Int), .int .i64 (p : Int), .string (strOf tx), .int .i32 v] 26)).alloc (.cells #[.int .u8 (k : Int), .int .i64 (p : Int), .string (strOf tx), .int .i32 v] 26)) (e := 26) (q := (W.alloc (.cells #[.int .u8 (k : Int), .int .i64 (p : Int), .string (strOf tx), .int .i32 v] 26)).heap.size) (x := ⟨k, (p : Int), tx, v⟩) hx (boxS_new _ _ _)
              rw [World.size_alloc] at h
              exact h
            have R1 := Lib.hid r1
            obtain ⟨out, ho⟩ := HB.out.2
            have HO := Lib.hid ho
            have HW := Lib.hid HB.out.1
            clear r1 hx ho HB
            generalize c.toNat = C0 at *
            generalize strOf (c :: r) = S1 at *
            generalize strOf tx = S2 at *
            go_wp2_with (first
              | (go_at_call 36; (with_reducible refine (C.out _).mono ?_); rintro e v1 ⟨rfl, b⟩; have B1 := Lib.hid (And.intro (bal (bal (blw HW.out b) (.cells #[.int .u8 (k : Int), .int .i64 (p : Int), .string S2, .int .i32 v] 26)) (.cells #[.int .u8 (k : Int), .int .i64 (p : Int), .string S2, .int .i32 v] 26)) (OwnR.keep (OwnR.keep (OwnR.keep HO.out.1 b) (bal (b0 _) (.cells #[.int .u8 (k : Int), .int .i64 (p : Int), .string S2, .int .i32 v] 26))) (bal (b0 _) (.cells #[.int .u8 (k : Int), .int .i64 (p : Int), .string S2, .int .i32 v] 26)))); clear b)
              | (at_builtin; (refine app_rws rfl (.tmp 34) (.tmp 36) rfl w.heap.size m c2 1 1 (m + 1) A (some ⟨v1.heap.size + 1, 0, none⟩) out [⟨k, (p : Int), tx, v⟩] rfl rfl B1.out.2 rfl (R1.out v1) rfl (by omega) B1.out.1.size ?_; intro A3 c3 w5 o2 g2; have H5 := Lib.hid (And.intro (bgrow B1.out.1 B1.out.2 (Nat.le_refl _) g2) o2); clear o2 g2)))
            go_roundw
            case rel => exact ⟨p + n, m + 1, c3, A3, by omega, by omega, by go_num, rfl, Lib.hid ⟨H5.out.1, _, H5.out.2, by rw [HO.out.2, HT.out]⟩⟩
            case measure => simp [intOf]; omega
      · obtain rfl : p = N := by omega
        obtain ⟨g1, out, g2, g3⟩ := H.out
        have ht : toks s 0 = .ok out := by
          rw [g3, List.drop_eq_nil_iff.2 (by have := HN.out; omega), toks_nil]
          simp [addT]
        have HE := Lib.hid (show GivesT w s (.returned (.tuple #[.slice A m c2, .int .i64 0, .int .i64 0])) wr from by
          have hm := g2.len
          unfold GivesT
          rw [HOk.out out ht]
          dsimp only
          rw [hm]
          exact ⟨A, c2, rfl, g2, g1⟩)
        clear H g1 g2 g3 ht
        go_wp2
        go_ret3
        exact HE.out
end Go.Proofs.YtldnmdadlgjbgaaGreatDoor
