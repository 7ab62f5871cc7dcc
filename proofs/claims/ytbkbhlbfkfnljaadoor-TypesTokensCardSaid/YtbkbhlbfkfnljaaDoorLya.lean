/- TypesValues, TypesTokens, TypesFront: their walks. -/
import Derived.Test.YtbkbhlbfkfnljaaDoorHed
set_option linter.unusedVariables false
set_option linter.unusedSimpArgs false
namespace Go.Proofs.YtbkbhlbfkfnljaaDoor
open Go Go.RowKit L8 L9

def IsTk (w : World) (A : Option Addr) (len cap : Nat) : Prop := ∃ rs : List Tk, rs.length = len ∧ RR w A cap rs
def S9 (w X : World) : Prop := Below w.heap.size w X ∧ T9 X
theorem S9.step {w X Y : World} (h : S9 w X) (b : Below X.heap.size X Y) : S9 w Y := ⟨blw h.1 b, h.2.below b⟩
theorem S9.tab {w X : World} (h : S9 w X) : T9 X := h.2
theorem S9.bel {w X : World} (h : S9 w X) : Below w.heap.size w X := h.1
theorem u8_wf9 {a : Int} (h : (Lit.int .u8 a).wf = true) : 0 ≤ a ∧ a < 256 := by
  simp only [Lit.wf, IntKind.min, IntKind.max, IntKind.signed, IntKind.bits, Bool.and_eq_true, decide_eq_true_eq] at h
  simp at h
  omega
set_option maxRecDepth 100000 in
theorem walkTypesValues (a0 : Int) (w0 : (Lit.int .u8 a0).wf = true) (a1 : Int) (w1 : (Lit.int .i32 a1).wf = true) (w : World) (ht : T9 w) :
    Calls Tryd.prog 6 #[.int .u8 a0, .int .i32 a1] w fun e w' => e = .returned (.bool true) ∧ Below w.heap.size w w' := by
  have hk := u8_wf9 w0
  obtain ⟨k, rfl⟩ : ∃ k : Nat, a0 = (k : Int) := ⟨a0.toNat, by omega⟩
  have HB : Hid (S9 w w) := Lib.hid ⟨b0 w, ht⟩
  have C1 := Lib.hid (fun (W : World) (h : T9 W) => PFits_any k a1 W h)
  have C2 := Lib.hid (fun (W : World) => RFits_any k a1 W)
  have C3 := Lib.hid (fun (W : World) (h : T9 W) => PSize_any k (by omega) W h)
  have C4 := Lib.hid (fun (W : World) => RSize_any k W)
  have CH := Lib.hid (fun (W : World) (h : T9 W) => head_any W h)
  clear ht w0 w1
  generalize fits k a1 = b at *
  generalize sizeK k = z at *
  have q1 : (b == b) = true := by simp
  have q2 : (z == z) = true := by simp
  go_enter Tryd.func6, Tryd.ntmps6
  go_wp2_with (first
    | (go_at_call 23; (with_reducible refine (C1.out _ HB.out.tab).mono ?_); rintro e v1 ⟨rfl, b⟩; replace HB := Lib.hid (HB.out.step b); clear b)
    | (go_at_call 24; (with_reducible refine (C2.out _).mono ?_); rintro e v2 ⟨rfl, rfl⟩)
    | (go_at_call 25; (with_reducible refine (C3.out _ HB.out.tab).mono ?_); rintro e v3 ⟨rfl, b⟩; replace HB := Lib.hid (HB.out.step b); clear b)
    | (go_at_call 26; (with_reducible refine (C4.out _).mono ?_); rintro e v4 ⟨rfl, rfl⟩)
    | (go_at_call 10; (with_reducible refine (CH.out _ HB.out.tab).mono ?_); rintro e v5 ⟨rfl, b⟩; replace HB := Lib.hid (HB.out.step b); clear b))
  go_ret
  exact ⟨rfl, HB.out.bel⟩
theorem okl_tokT {t : Ty} : OKL (tokensT t).1 := by
  unfold tokensT
  split
  · rename_i h
    exact fun x hx => may_okx9 (tok_may h x hx).1 (tok_may h x hx).2
  · exact OKL.nil
set_option maxRecDepth 100000 in
set_option maxHeartbeats 4000000 in
theorem walkTypesTokens (a0 : Ty) (w0 : OKt a0) (w : World) (ht : T9 w) :
    Calls Tryd.prog 4 #[tyV a0] w fun e w' => e = .returned (.bool true) ∧ Below w.heap.size w w' := by
  have HB : Hid (S9 w (w.alloc (.cells (tyC a0) 24)) ∧ BoxS (w.alloc (.cells (tyC a0) 24)) w.heap.size 24 (tyC a0)) := Lib.hid ⟨⟨bal (b0 w) _, ht.below (bal (b0 w) _)⟩, boxS_new w _ _⟩
  have hok := okl_tokT (t := a0)
  have C1 : Hid (∀ (W : World), T9 W → Calls Tryd.prog 18 #[tyV a0] W fun e w' => ∃ A c, e = .returned (.tuple #[.slice A (tokensT a0).1.length c, .int .i64 (tokensT a0).2]) ∧ RR w' A c (tokensT a0).1 ∧ Below W.heap.size W w') := Lib.hid fun W h => (PTok_any a0 w0 W h).mono fun e w' ⟨A, c, h, o, b⟩ => ⟨A, c, h, o.rr hok, b⟩
  have C2 : Hid (∀ (W : World), Calls Tryd.prog 19 #[tyV a0] W fun e w' => ∃ A c, e = .returned (.tuple #[.slice A (tokensT a0).1.length c, .int .i64 (tokensT a0).2]) ∧ RR w' A c (tokensT a0).1 ∧ Below W.heap.size W w') := Lib.hid fun W => (RTok_any a0 w0 W).mono fun e w' ⟨A, c, h, o, b⟩ => ⟨A, c, h, o.rr hok, b⟩
  have CH := Lib.hid (fun (W : World) (h : T9 W) => head_any W h)
  clear ht w0 hok
  generalize tokensT a0 = r at *
  obtain ⟨l, er⟩ := r
  dsimp only [tyV, tyC] at *
  have CS : Hid (∀ (W : World) (A B : Option Addr) (c d : Nat) (R : RR W A c l) (S : RR W B d l), Calls Tryd.prog 20 #[.slice A l.length c, .slice B l.length d] W fun e w' => e = .returned (.bool true) ∧ Below W.heap.size W w') := Lib.hid fun W A B c d R S => by
    have := RSameT_any R S rfl rfl
    rwa [decide_eq_true rfl] at this
  generalize l.length = n at *
  generalize strOf a0.p = S at *
  have q1 : (er == er) = true := by simp
  go_enter Tryd.func4, Tryd.ntmps4
  go_wp2_with (first
    | (go_at_call 18; (with_reducible refine (C1.out _ HB.out.1.tab).mono ?_); rintro e v1 ⟨A1, c1, rfl, r, b⟩; have H1 := Lib.hid (And.intro (HB.out.1.step b) (And.intro (HB.out.2.below b) r)); clear b r; obtain ⟨⟨x0, x1, x2, x3⟩, xl⟩ := box4 H1.out.2.1)
    | (go_at_call 19; (with_reducible refine (C2.out _).mono ?_); rintro e v2 ⟨A2, c2, rfl, r, b⟩; have H2 := Lib.hid (And.intro (H1.out.1.step b) (And.intro (H1.out.2.2.keep b) r)); clear b r)
    | (go_at_call 20; (with_reducible refine (CS.out _ _ _ _ _ H2.out.2.1 H2.out.2.2).mono ?_); rintro e v3 ⟨rfl, b⟩; have H3 := Lib.hid (H2.out.1.step b); clear b)
    | (go_at_call 10; (with_reducible refine (CH.out _ H3.out.tab).mono ?_); rintro e v5 ⟨rfl, b⟩; have H4 := Lib.hid (H3.out.step b); clear b))
  go_ret
  exact ⟨rfl, H4.out.bel⟩
end Go.Proofs.YtbkbhlbfkfnljaaDoor
