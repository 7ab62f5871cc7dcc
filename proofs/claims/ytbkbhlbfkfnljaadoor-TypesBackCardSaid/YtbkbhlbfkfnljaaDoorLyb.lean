/- TypesFront: its walk. -/
import Derived.Test.YtbkbhlbfkfnljaaDoorLya
set_option linter.unusedVariables false
set_option linter.unusedSimpArgs false
namespace Go.Proofs.YtbkbhlbfkfnljaaDoor
open Go Go.RowKit L8 L9

theorem own_e9 (v : World) : OwnR (v.alloc (.cells #[] 57)) 57 v.heap.size (some ⟨v.heap.size, 0, none⟩) 0 0 [] :=
  ⟨rfl, .inr ⟨v.heap.size, 0, #[], rfl, Nat.le_refl _, boxS_new v _ _, Nat.le_refl _, by simp [maxLen], rfl, rfl⟩⟩
/-- Two rows that read as one list. -/
def F9 (w X : World) (A A2 : Option Addr) (c c2 : Nat) (l : List Tk) : Prop := S9 w X ∧ RR X A c l ∧ RR X A2 c2 l
theorem F9.step {w X Y : World} {A A2 : Option Addr} {c c2 : Nat} {l : List Tk} (h : F9 w X A A2 c c2 l) (b : Below X.heap.size X Y) : F9 w Y A A2 c c2 l := ⟨h.1.step b, h.2.1.keep b, h.2.2.keep b⟩
theorem F9.s {w X : World} {A A2 : Option Addr} {c c2 : Nat} {l : List Tk} (h : F9 w X A A2 c c2 l) : S9 w X := h.1
theorem F9.r1 {w X : World} {A A2 : Option Addr} {c c2 : Nat} {l : List Tk} (h : F9 w X A A2 c c2 l) : RR X A c l := h.2.1
theorem F9.r2 {w X : World} {A A2 : Option Addr} {c c2 : Nat} {l : List Tk} (h : F9 w X A A2 c c2 l) : RR X A2 c2 l := h.2.2
set_option maxRecDepth 100000 in
set_option maxHeartbeats 8000000 in
theorem walkTypesFront (a0 : Option Addr) (len0 cap0 : Nat) (w : World) (w0 : IsTk w a0 len0 cap0) (ht : T9 w) :
    Calls Tryd.prog 5 #[.slice a0 len0 cap0] w fun e w' => e = .returned (.bool true) ∧ Below w.heap.size w w' := by
  obtain ⟨l, hm, R⟩ := w0
  generalize len0 = m at *
  have HR := Lib.hid R
  have HM := Lib.hid hm
  have HT := Lib.hid ht
  have hmx : m ≤ maxLen := by have := R.le; have := R.mx; omega
  unfold maxLen at hmx
  have CH := Lib.hid (fun (W : World) (h : T9 W) => head_any W h)
  by_cases h40 : (40 : Int) < (m : Int)
  · clear R hm ht
    go_enter Tryd.func5, Tryd.ntmps5
    go_wp2_with (go_at_call 10; (with_reducible refine (CH.out _ HT.out).mono ?_); rintro e v5 ⟨rfl, b⟩; have H4 := Lib.hid b; clear b)
    go_ret
    exact ⟨rfl, H4.out⟩
  · have C1 : Hid (∀ (W : World) (A2 : Option Addr) (c2 : Nat) (h : F9 w W a0 A2 cap0 c2 l), Calls Tryd.prog 21 #[.slice A2 m c2] W fun e w' => e = .returned (.tuple #[tyV (frontR l).1, .int .i64 ((frontR l).2.1 : Int), .int .i64 (frontR l).2.2]) ∧ Below W.heap.size W w') := Lib.hid fun W A2 c2 h => PFront_any h.r2 hm h.s.tab
    have C2 : Hid (∀ (W : World) (A2 : Option Addr) (c2 : Nat) (h : F9 w W a0 A2 cap0 c2 l), Calls Tryd.prog 22 #[.slice a0 m cap0] W fun e w' => e = .returned (.tuple #[tyV (frontR l).1, .int .i64 ((frontR l).2.1 : Int), .int .i64 (frontR l).2.2]) ∧ Below W.heap.size W w') := Lib.hid fun W A2 c2 h => RFront_any h.r1 hm
    have CS : Hid (∀ (W : World) (A2 : Option Addr) (c2 : Nat) (h : F9 w W a0 A2 cap0 c2 l), Calls Tryd.prog 20 #[.slice A2 m c2, .slice a0 m cap0] W fun e w' => e = .returned (.bool true) ∧ Below W.heap.size W w') := Lib.hid fun W A2 c2 h => by
      have := RSameT_any h.r2 h.r1 hm hm
      rwa [decide_eq_true rfl] at this
    have HF := Lib.hid (fun (X : World) (A2 : Option Addr) (c2 : Nat) (o : OwnR X 57 w.heap.size A2 m c2 l) (b : Below w.heap.size w X) => show F9 w X a0 A2 cap0 c2 l from ⟨⟨b, HT.out.below b⟩, HR.out.keep b, o.rr HR.out.ok⟩)
    have hq := fun W => eq_ty (frontR l).1 (frontR l).1 W
    rw [decide_eq_true rfl] at hq
    clear R hm ht
    generalize frontR l = r at *
    obtain ⟨t, n, er⟩ := r
    dsimp only [tyV] at *
    generalize strOf t.p = S at *
    have q1 : ((n : Int) == (n : Int)) = true := by simp
    have q2 : (er == er) = true := by simp
    go_enter Tryd.func5, Tryd.ntmps5
    go_wp2_with (first
      | (at_builtin; (refine app_rws rfl (.tmp 14) (.tmp 15) rfl w.heap.size 0 0 m cap0 m (some ⟨w.heap.size, 0, none⟩) a0 [] l rfl rfl (own_e9 w) HM.out (HR.out.keep (bal (b0 w) _)) (by omega) (by omega) (bal (b0 w) _).size ?_; intro A2 c2 v1 o2 g2; have H1 := Lib.hid (HF.out _ _ _ o2 (bgrow (bal (b0 w) _) (own_e9 w) (Nat.le_refl _) g2)); clear o2 g2))
      | (go_at_call 21; (with_reducible refine (C1.out _ _ _ H1.out).mono ?_); rintro e v2 ⟨rfl, b⟩; have H2 := Lib.hid ((H1.out.step b).step (bal (b0 _) (.cells #[.int .u8 (t.k : Int), .int .i64 t.d, .int .u8 (t.i : Int), .string S] 24))); have X2 := Lib.hid (boxS_new v2 24 #[.int .u8 (t.k : Int), .int .i64 t.d, .int .u8 (t.i : Int), .string S]); clear b)
      | (go_at_call 22; (with_reducible refine (C2.out _ _ _ H2.out).mono ?_); rintro e v3 ⟨rfl, b⟩; have H3 := Lib.hid ((H2.out.step b).step (bal (b0 _) (.cells #[.int .u8 (t.k : Int), .int .i64 t.d, .int .u8 (t.i : Int), .string S] 24))); obtain ⟨⟨x0, x1, x2, x3⟩, xl⟩ := box4 ((X2.out.below b).alloc (.cells #[.int .u8 (t.k : Int), .int .i64 t.d, .int .u8 (t.i : Int), .string S] 24)); clear b)
      | (go_at_call 20; (with_reducible refine (CS.out _ _ _ H3.out).mono ?_); rintro e v4 ⟨rfl, b⟩; have H4 := Lib.hid (H3.out.s.step b); clear b)
      | (go_at_call 10; (with_reducible refine (CH.out _ H4.out.tab).mono ?_); rintro e v5 ⟨rfl, b⟩; have H5 := Lib.hid (H4.out.step b); clear b))
    go_ret
    exact ⟨rfl, H5.out.bel⟩
end Go.Proofs.YtbkbhlbfkfnljaaDoor
