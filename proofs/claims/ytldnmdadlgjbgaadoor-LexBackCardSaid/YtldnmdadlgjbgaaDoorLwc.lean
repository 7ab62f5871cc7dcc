/- LexAgain, LexJoins, LexBytes: their walks. -/
import Derived.Test.YtldnmdadlgjbgaaDoorAwk
set_option linter.unusedVariables false
set_option linter.unusedSimpArgs false
namespace Go.Proofs.YtldnmdadlgjbgaaDoor
open Go Go.RowKit L8

theorem tokens_ways (s : Bs) : (256 < s.length ∧ tokens s = ([], 0, 3)) ∨ (s.length ≤ 256 ∧ ∃ p, toks s 0 = .error p ∧ tokens s = ([], (p : Int), 80)) ∨ (s.length ≤ 256 ∧ ∃ l, toks s 0 = .ok l ∧ tokens s = (l, 0, 0)) := by
  by_cases h : 256 < s.length
  · exact .inl ⟨h, tokens_long h⟩
  · right
    cases ht : toks s 0 with
    | error p => exact .inl ⟨by omega, p, rfl, tokens_err h ht⟩
    | ok l => exact .inr ⟨by omega, l, rfl, tokens_ok h ht⟩
theorem all_may {l : List Tk} (h : ∀ t ∈ l, may t = true ∧ OKn t) : l.all may = true := List.all_eq_true.2 fun t ht => (h t ht).1
theorem okl_may {l : List Tk} (h : ∀ t ∈ l, may t = true ∧ OKn t) : OKL l := fun t ht => may_okx (h t ht).1 (h t ht).2
theorem put_len (p : Nat) (l : List Tk) : (put p l).length = l.length := by
  have := congrArg List.length (kern_put p l)
  simpa [kern] using this
/-- Text's answer as letters. -/
theorem Text_at {A : Option Addr} {c m : Nat} {l : List Tk} {S : Bs} {er : Int} {w : World} (R : RR w A c l) (hm : l.length = m) (ht : W1.Tab w) (h : text l = (S, er)) : Calls Tryd.prog 11 #[.slice A m c] w fun e w' => e = .returned (.tuple #[.string (strOf S), .int .i64 er]) ∧ Below w.heap.size w w' := by
  have := Text_any R hm ht
  unfold GivesX at this
  rw [h] at this
  exact this
/-- The state of a law: what it reads stays, the table stays. -/
def St1 (w X : World) (A : Option Addr) (c : Nat) (l : List Tk) : Prop := Below w.heap.size w X ∧ W1.Tab X ∧ RR X A c l
theorem St1.step {w X Y : World} {A : Option Addr} {c : Nat} {l : List Tk} (h : St1 w X A c l) (b : Below X.heap.size X Y) : St1 w Y A c l := ⟨blw h.1 b, h.2.1.below b, h.2.2.keep b⟩
theorem St1.tab {w X : World} {A : Option Addr} {c : Nat} {l : List Tk} (h : St1 w X A c l) : W1.Tab X := h.2.1
theorem St1.rr {w X : World} {A : Option Addr} {c : Nat} {l : List Tk} (h : St1 w X A c l) : RR X A c l := h.2.2
def St2 (w X : World) (A : Option Addr) (c : Nat) (l : List Tk) (A2 : Option Addr) (c2 : Nat) (l2 : List Tk) : Prop := St1 w X A c l ∧ RR X A2 c2 l2
theorem St2.step {w X Y : World} {A A2 : Option Addr} {c c2 : Nat} {l l2 : List Tk} (h : St2 w X A c l A2 c2 l2) (b : Below X.heap.size X Y) : St2 w Y A c l A2 c2 l2 := ⟨h.1.step b, h.2.keep b⟩
theorem St2.tab {w X : World} {A A2 : Option Addr} {c c2 : Nat} {l l2 : List Tk} (h : St2 w X A c l A2 c2 l2) : W1.Tab X := h.1.2.1
theorem St2.rr1 {w X : World} {A A2 : Option Addr} {c c2 : Nat} {l l2 : List Tk} (h : St2 w X A c l A2 c2 l2) : RR X A c l := h.1.2.2
theorem St2.rr2 {w X : World} {A A2 : Option Addr} {c c2 : Nat} {l l2 : List Tk} (h : St2 w X A c l A2 c2 l2) : RR X A2 c2 l2 := h.2
set_option maxRecDepth 100000 in
set_option maxHeartbeats 8000000 in
theorem walkLexAgain (a0 : ByteArray) (w0 : a0.size ≤ maxLen) (w : World) (ht : W1.Tab w) :
    Calls Tryd.prog 4 #[.string a0] w fun e w' => e = .returned (.bool true) ∧ Below w.heap.size w w' := by
  obtain ⟨l, rfl⟩ : ∃ l : Bs, a0 = strOf l := ⟨_, str_self a0⟩
  have hsz := size_strOf l
  rw [hsz] at w0
  have CA := Lib.hid (fun (W : World) (h : W1.Tab W) => awake_any W h)
  by_cases h600 : (600 : Int) < (l.length : Int)
  · have HT := Lib.hid ht
    clear ht w0
    generalize l.length = N at *
    generalize strOf l = S at *
    go_enter Tryd.func4, Tryd.ntmps4
    go_wp2_with (go_at_call 9; (with_reducible refine (CA.out _ HT.out).mono ?_); rintro e v5 ⟨rfl, b⟩; have HB := Lib.hid b; clear b)
    go_ret
    exact ⟨rfl, HB.out⟩
  · rcases tokens_ways l with ⟨_, htk⟩ | ⟨_, p, _, htk⟩ | ⟨h256, ts, hts, htk⟩
    · have C1 := Lib.hid (Tokens_at w0 w ht htk)
      have HT := Lib.hid (fun (X : World) (b : Below w.heap.size w X) => ht.below b)
      clear ht w0 htk
      generalize l.length = N at *
      generalize strOf l = S at *
      go_enter Tryd.func4, Tryd.ntmps4
      go_wp2_with (first
        | (go_at_call 12; (with_reducible refine (C1.out).mono ?_); rintro e v1 ⟨A1, c1, rfl, h1, h2⟩; have H1 := Lib.hid h2; clear h1 h2)
        | (go_at_call 9; (with_reducible refine (CA.out _ (HT.out _ H1.out)).mono ?_); rintro e v5 ⟨rfl, b⟩; have HB := Lib.hid (blw H1.out b); clear b))
      go_ret
      exact ⟨rfl, HB.out⟩
    · have C1 := Lib.hid (Tokens_at w0 w ht htk)
      have HT := Lib.hid (fun (X : World) (b : Below w.heap.size w X) => ht.below b)
      clear ht w0 htk
      generalize l.length = N at *
      generalize strOf l = S at *
      go_enter Tryd.func4, Tryd.ntmps4
      go_wp2_with (first
        | (go_at_call 12; (with_reducible refine (C1.out).mono ?_); rintro e v1 ⟨A1, c1, rfl, h1, h2⟩; have H1 := Lib.hid h2; clear h1 h2)
        | (go_at_call 9; (with_reducible refine (CA.out _ (HT.out _ H1.out)).mono ?_); rintro e v5 ⟨rfl, b⟩; have HB := Lib.hid (blw H1.out b); clear b))
      go_ret
      exact ⟨rfl, HB.out⟩
    · obtain ⟨hmay, hback, hkern, htext⟩ := again h256 hts
      have hO := okl_may hmay
      have C1 : Hid (Calls Tryd.prog 12 #[.string (strOf l)] w fun en w' => ∃ A c, en = .returned (.tuple #[.slice A ts.length c, .int .i64 0, .int .i64 0]) ∧ St1 w w' A c ts) := Lib.hid ((Tokens_at w0 w ht htk).mono fun e w' ⟨A, c, h1, h2, h3⟩ => ⟨A, c, h1, h3, ht.below h3, h2.rr hO⟩)
      by_cases hlong : 256 < (textT ts).length
      · have htx := text_long (all_may hmay) hlong
        have C2 := Lib.hid (fun (X : World) (A : Option Addr) (c : Nat) (h : St1 w X A c ts) => Text_at h.rr rfl h.tab htx)
        clear ht w0 htk hmay hback hkern htext hO hlong htx hts
        generalize ts.length = k at *
        generalize l.length = N at *
        generalize strOf l = S at *
        go_enter Tryd.func4, Tryd.ntmps4
        go_wp2_with (first
          | (go_at_call 12; (with_reducible refine (C1.out).mono ?_); rintro e v1 ⟨A1, c1, rfl, h1⟩; have H1 := Lib.hid h1; clear h1)
          | (go_at_call 11; (with_reducible refine (C2.out _ _ _ H1.out).mono ?_); rintro e v2 ⟨rfl, b⟩; replace H1 := Lib.hid (H1.out.step b); clear b)
          | (go_at_call 9; (with_reducible refine (CA.out _ H1.out.tab).mono ?_); rintro e v5 ⟨rfl, b⟩; have HB := Lib.hid (blw H1.out.1 b); clear b))
        go_ret
        exact ⟨rfl, HB.out⟩
      · have htx := text_ok (all_may hmay) (show (textT ts).length ≤ 256 by omega)
        have hb2 : tokens (textT ts) = (put 0 ts, 0, 0) := tokens_ok (by omega) hback
        have hm2 := tokens_okl (textT ts)
        rw [hb2] at hm2
        have htx2 : text (put 0 ts) = (textT ts, 0) := by
          have := text_ok (all_may hm2) (by rw [htext]; omega)
          rw [htext] at this
          exact this
        have hl2 := put_len 0 ts
        have C2 := Lib.hid (fun (X : World) (A : Option Addr) (c : Nat) (h : St1 w X A c ts) => Text_at h.rr rfl h.tab htx)
        have C3 : Hid (∀ (X : World) (A : Option Addr) (c : Nat) (h : St1 w X A c ts), Calls Tryd.prog 12 #[.string (strOf (textT ts))] X fun en w' => ∃ A2 c2, en = .returned (.tuple #[.slice A2 ts.length c2, .int .i64 0, .int .i64 0]) ∧ St2 w w' A c ts A2 c2 (put 0 ts)) := Lib.hid fun X A c h => by
          have := Tokens_at (by unfold maxLen; omega) X h.tab hb2
          rw [hl2] at this
          exact this.mono fun e w' ⟨A2, c2, h1, h2, h3⟩ => ⟨A2, c2, h1, h.step h3, h2.rr (okl_may hm2)⟩
        have C4 := Lib.hid (fun (X : World) (A A2 : Option Addr) (c c2 : Nat) (h : St2 w X A c ts A2 c2 (put 0 ts)) => Text_at h.rr2 hl2 h.tab htx2)
        have C5 : Hid (∀ (X : World) (A A2 : Option Addr) (c c2 : Nat) (h : St2 w X A c ts A2 c2 (put 0 ts)), Calls Tryd.prog 13 #[.slice A ts.length c, .slice A2 ts.length c2] X fun e w' => e = .returned (.bool true) ∧ Below X.heap.size X w') := Lib.hid fun X A A2 c c2 h => by
          have := RSame_any h.rr1 h.rr2 rfl hl2
          rwa [decide_eq_true hkern.symm] at this
        have q0 : ((strOf (textT ts)).toList == (strOf (textT ts)).toList) = true := by simp
        clear ht w0 htk hmay hback hkern htext hO hlong htx hb2 hm2 htx2 hl2 hts
        generalize ts.length = k at *
        generalize l.length = N at *
        generalize strOf l = S at *
        generalize strOf (textT ts) = T at *
        go_enter Tryd.func4, Tryd.ntmps4
        go_wp2_with (first
          | (go_at_call 12; (with_reducible refine (C1.out).mono ?_); rintro e v1 ⟨A1, c1, rfl, h1⟩; have H1 := Lib.hid h1; clear h1 C1)
          | (go_at_call 11; (with_reducible refine (C2.out _ _ _ H1.out).mono ?_); rintro e v2 ⟨rfl, b⟩; have H2 := Lib.hid (H1.out.step b); clear b H1 C2)
          | (go_at_call 12; (with_reducible refine (C3.out _ _ _ H2.out).mono ?_); rintro e v3 ⟨A2, c2, rfl, h1⟩; have H3 := Lib.hid h1; clear h1 H2)
          | (go_at_call 11; (with_reducible refine (C4.out _ _ _ _ _ H3.out).mono ?_); rintro e v4 ⟨rfl, b⟩; have H4 := Lib.hid (H3.out.step b); clear b H3)
          | (go_at_call 13; (with_reducible refine (C5.out _ _ _ _ _ H4.out).mono ?_); rintro e v5 ⟨rfl, b⟩; have H5 := Lib.hid (H4.out.step b); clear b)
          | (go_at_call 9; (with_reducible refine (CA.out _ H5.out.tab).mono ?_); rintro e v6 ⟨rfl, b⟩; have HB := Lib.hid (blw H5.out.1.1 b); clear b))
        go_ret
        exact ⟨rfl, HB.out⟩
end Go.Proofs.YtldnmdadlgjbgaaDoor
