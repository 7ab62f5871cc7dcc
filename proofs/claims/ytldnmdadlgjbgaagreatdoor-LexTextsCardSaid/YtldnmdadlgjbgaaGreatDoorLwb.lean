/- LexReads, LexTexts: the library's Equal and Clone at tokens; the walks. -/
import Derived.Test.YtldnmdadlgjbgaaGreatDoorLwa
import Derived.Laws.StructEq
set_option linter.unusedVariables false
set_option linter.unusedSimpArgs false
namespace Go.Proofs.YtldnmdadlgjbgaaGreatDoor
open Go Go.RowKit L8

set_option maxRecDepth 100000 in
theorem eq_tok (x : Tk) (w : World) : (Op.equalIn 10000 26 (rwV x) (rwV x)).run Tryz.prog w = .ok true w := by
  obtain ⟨k, a, tx, n⟩ := x
  dsimp only [rwV]
  generalize strOf tx = S
  have u1 := Tryz.underlying24
  have a1 := Tryz.isAgg24
  have z1 := Tryz.sizeOf24
  have u2 := Tryz.underlying3
  have a2 := Tryz.isAgg3
  have z2 := Tryz.sizeOf3
  have u3 := Tryz.underlying9
  have a3 := Tryz.isAgg9
  have z3 := Tryz.sizeOf9
  have u4 := Tryz.underlying21
  have a4 := Tryz.isAgg21
  have z4 := Tryz.sizeOf21
  have hS : Tryz.prog.underlying 26 = some (.struct (Tryz.prog.fieldsOf 26)) := by kernel_rfl
  have hp : Tryz.prog.stoodInHeld 26 = false := by kernel_rfl
  rw [show (10000 : Nat) = 9999 + 1 from rfl, run_equalIn_agg w 9999 26 _ _ hS hp]
  simp only [Program.fieldsOf, Tryz.underlying26]
  go_simp
theorem guard_tok : Tryz.prog.eqGuardType Tryz.prog.depth 26 = false := by kernel_rfl
theorem neq_tok (x : Tk) (w : World) : (binOp .neq 26 (rwV x) (rwV x)).run Tryz.prog w = .ok (.bool false) w := by
  rw [run_neq_struct, eq_tok]; rfl
set_option maxRecDepth 100000 in
set_option maxHeartbeats 8000000 in
theorem Equal_any {A B : Option Addr} {c d m : Nat} {xs : List Tk} {w : World} (R : RR w A c xs) (S : RR w B d xs) (hm : xs.length = m) : Calls Tryz.prog 16 #[.slice A m c, .slice B m d] w fun e w' => e = .returned (.bool true) ∧ Below w.heap.size w w' := by
  have HR := Lib.hid R
  have HS := Lib.hid S
  have hmx : m ≤ maxLen := by have := R.le; have := R.mx; omega
  unfold maxLen at hmx
  have HM := Lib.hid hm
  have q0 : ((m : Int) != (m : Int)) = false := by simp
  clear R S hm
  go_enter Tryz.func16, Tryz.ntmps16
  go_wp2
  go_loopw [13] (fun i wr => ∃ k : Nat, k ≤ m ∧ i = .int .i64 k ∧ Hid (Below w.heap.size w wr)) (fun i _ => m - (intOf i).toNat)
  case atStart => exact ⟨0, Nat.zero_le _, rfl, Lib.hid (b0 w)⟩
  case round =>
    obtain ⟨k, hk, rfl, H⟩ := hrel
    have hk0 : (0 : Int) ≤ (k : Int) := by omega
    by_cases hlt : (k : Int) < (m : Int)
    · obtain ⟨ad, rfl, c0, c1, c2, c3⟩ := (HR.out.keep H.out).rd k (by have := HM.out; omega)
      obtain ⟨ad2, rfl, e0, e1, e2, e3⟩ := (HS.out.keep H.out).rd k (by have := HM.out; omega)
      have hn := fun W => neq_tok (xs.getD k r0) W
      have hg := fun (x y : Operand) W => run_eqGuard_agg (P := Tryz.prog) W .neq 26 x y #[.int .u8 ((xs.getD k r0).k : Int), .int .i64 (xs.getD k r0).a, .string (strOf (xs.getD k r0).tx), .int .i32 (xs.getD k r0).n] #[.int .u8 ((xs.getD k r0).k : Int), .int .i64 (xs.getD k r0).a, .string (strOf (xs.getD k r0).tx), .int .i32 (xs.getD k r0).n] guard_tok
      rw [rwV_eq] at hn
      have HB := Lib.hid (fun n => bdrew H.out n)
      clear H
      generalize xs.getD k r0 = x at *
      obtain ⟨xk, xa, xt, xn⟩ := x
      dsimp only at *
      generalize Value.int .u8 (xk : Int) = V0 at *
      generalize Value.int .i64 xa = V1 at *
      generalize Value.string (strOf xt) = V2 at *
      generalize Value.int .i32 xn = V3 at *
      go_wp2
      go_quiet (fail)
      have HE := Lib.hid (HB.out nq)
      clear HB c0 c1 c2 c3 e0 e1 e2 e3
      generalize wr.drewN nq = W at *
      go_wp2
      go_roundw
      case rel => exact ⟨k + 1, by omega, by go_num, HE⟩
      case measure => simp [intOf]; omega
    · obtain rfl : k = m := by omega
      go_wp2
      go_ret
      exact ⟨rfl, H.out⟩
theorem own_e0 (v : World) : OwnR (v.alloc (.cells #[] 26)) 26 v.heap.size (some ⟨v.heap.size, 0, none⟩) 0 0 [] :=
  ⟨rfl, .inr ⟨v.heap.size, 0, #[], rfl, Nat.le_refl _, boxS_new v _ _, Nat.le_refl _, by simp [maxLen], rfl, rfl⟩⟩
/-- A slice that came in: nil has no elements. -/
def NilOk (A : Option Addr) (rs : List Tk) : Prop := A = none → rs = []
theorem RR.nilOk {w : World} {A : Option Addr} {c : Nat} {rs : List Tk} (h : RR w A c rs) : A = none → rs = [] := by
  intro e
  cases rs with
  | nil => rfl
  | cons x r =>
    obtain ⟨ad, e2, _⟩ := h.rd 0 (by simp)
    rw [e] at e2; cases e2
set_option maxRecDepth 100000 in
set_option maxHeartbeats 8000000 in
theorem Clone_any {A : Option Addr} {c m : Nat} {l : List Tk} {w : World} (R : RR w A c l) (hm : l.length = m) (h300 : m ≤ 100000) : Calls Tryz.prog 18 #[.slice A m c] w fun e w' => ∃ A2 c2, e = .returned (.slice A2 m c2) ∧ RR w' A2 c2 l ∧ Below w.heap.size w w' := by
  cases A with
  | none =>
    obtain rfl := R.nilOk rfl
    obtain rfl : 0 = m := hm
    have hq := fun W => Lib.run_eql_slice_nil (P := Tryz.prog) W 28 26 none 0 c 0 0 Tryz.underlying28
    go_enter Tryz.func18, Tryz.ntmps18
    go_wp2
    go_ret
    exact ⟨_, _, rfl, RR.nil w, b0 w⟩
  | some ad =>
    have hq := fun W => Lib.run_eql_slice_nil (P := Tryz.prog) W 28 26 (some ad) m c 0 0 Tryz.underlying28
    have HR := Lib.hid R
    have HM := Lib.hid hm
    have HL := Lib.hid h300
    clear R hm
    go_enter Tryz.func18, Tryz.ntmps18
    go_wp2_with (at_builtin; (refine app_rws rfl (.tmp 5) (.tmp 6) rfl w.heap.size 0 0 m c m (some ⟨w.heap.size, 0, none⟩) (some ad) [] l rfl rfl (own_e0 w) HM.out (HR.out.keep (bal (b0 w) _)) (by omega) (by have := HL.out; omega) (bal (b0 w) _).size ?_; intro A2 c2 v2 o2 g2; have H2 := Lib.hid (And.intro o2 (bgrow (bal (b0 w) _) (own_e0 w) (Nat.le_refl _) g2)); clear o2 g2))
    go_ret
    exact ⟨_, _, rfl, H2.out.1.rr HR.out.ok, H2.out.2⟩
/-! ### The laws -/
set_option maxRecDepth 100000 in
set_option maxHeartbeats 8000000 in
theorem walkLexReads (a0 : ByteArray) (w0 : a0.size ≤ maxLen) (w : World) (ht : W1.Tab w) :
    Calls Tryz.prog 5 #[.string a0] w fun e w' => e = .returned (.bool true) ∧ Below w.heap.size w w' := by
  obtain ⟨l, rfl⟩ : ∃ l : Bs, a0 = strOf l := ⟨_, str_self a0⟩
  have hsz := size_strOf l
  rw [hsz] at w0
  have CA := Lib.hid (fun (W : World) (h : W1.Tab W) => awake_any W h)
  have HB := Lib.hid (And.intro (b0 w) ht)
  by_cases h600 : (600 : Int) < (l.length : Int)
  · clear ht w0
    generalize l.length = N at *
    generalize strOf l = S at *
    go_enter Tryz.func5, Tryz.ntmps5
    go_wp2_with (go_at_call 11; (with_reducible refine (CA.out _ HB.out.2).mono ?_); rintro e v5 ⟨rfl, b⟩; replace HB := Lib.hid (And.intro (blw HB.out.1 b) (HB.out.2.below b)); clear b)
    go_ret
    exact ⟨rfl, HB.out.1⟩
  · obtain ⟨ts, n, er, htk⟩ : ∃ ts n er, tokens l = (ts, n, er) := ⟨_, _, _, rfl⟩
    have C1 := Lib.hid (Tokens_at w0 w ht htk)
    have C2 : Hid (∀ W : World, Calls Tryz.prog 15 #[.string (strOf l)] W fun en w' => ∃ A c, en = .returned (.tuple #[.slice A ts.length c, .int .i64 n, .int .i64 er]) ∧ OwnR w' 26 W.heap.size A ts.length c ts ∧ Below W.heap.size W w') := Lib.hid fun W => by
      have := RTokens_any l w0 W
      unfold GivesT at this
      rw [htk] at this
      exact this
    have HO := Lib.hid (okl_at htk)
    have CE := Lib.hid (fun (W : World) (A B : Option Addr) (c d : Nat) (R : RR W A c ts) (S : RR W B d ts) => Equal_any R S rfl)
    have HM : Hid (∀ (X Y : World) (A B : Option Addr) (c d : Nat) (h1 : Below w.heap.size w X) (R : RR X A c ts) (b : Below X.heap.size X Y) (S : OwnR Y 26 X.heap.size B ts.length d ts), (Below w.heap.size w Y ∧ W1.Tab Y) ∧ RR Y A c ts ∧ RR Y B d ts) := Lib.hid fun X Y A B c d h1 R b S => ⟨⟨blw h1 b, ht.below (blw h1 b)⟩, R.keep b, S.rr HO.out⟩
    have q1 : (n == n) = true := by simp
    have q2 : (er == er) = true := by simp
    clear ht w0 htk HB
    generalize ts.length = k at *
    generalize l.length = N at *
    generalize strOf l = S at *
    go_enter Tryz.func5, Tryz.ntmps5
    go_wp2_with (first
      | (go_at_call 14; (with_reducible refine (C1.out).mono ?_); rintro e v1 ⟨A1, c1, rfl, h1, h2⟩; have H1 := Lib.hid (And.intro h2 (h1.rr HO.out)); clear h1 h2)
      | (go_at_call 15; (with_reducible refine (C2.out _).mono ?_); rintro e v2 ⟨A2, c2, rfl, h1, h2⟩; have H2 := Lib.hid (HM.out _ _ _ _ _ _ H1.out.1 H1.out.2 h2 h1); clear h1 h2)
      | (go_at_call 16; (with_reducible refine (CE.out _ _ _ _ _ H2.out.2.1 H2.out.2.2).mono ?_); rintro e v3 ⟨rfl, b⟩; have H3 := Lib.hid (And.intro (blw H2.out.1.1 b) (H2.out.1.2.below b)); clear b)
      | (go_at_call 11; (with_reducible refine (CA.out _ H3.out.2).mono ?_); rintro e v5 ⟨rfl, b⟩; have H4 := Lib.hid (blw H3.out.1 b); clear b))
    go_ret
    exact ⟨rfl, H4.out⟩
def IsTs (w : World) (A : Option Addr) (len cap : Nat) : Prop := ∃ rs : List Tk, rs.length = len ∧ RR w A cap rs
set_option maxRecDepth 100000 in
set_option maxHeartbeats 8000000 in
theorem walkLexTexts (a0 : Option Addr) (len0 cap0 : Nat) (w : World) (w0 : IsTs w a0 len0 cap0) (ht : W1.Tab w) :
    Calls Tryz.prog 6 #[.slice a0 len0 cap0] w fun e w' => e = .returned (.bool true) ∧ Below w.heap.size w w' := by
  obtain ⟨l, hl, R⟩ := w0
  have CA := Lib.hid (fun (W : World) (h : W1.Tab W) => awake_any W h)
  have HB := Lib.hid (And.intro (b0 w) ht)
  have hmx : len0 ≤ maxLen := by have := R.le; have := R.mx; omega
  unfold maxLen at hmx
  by_cases h300 : (300 : Int) < (len0 : Int)
  · clear ht R hl
    go_enter Tryz.func6, Tryz.ntmps6
    go_wp2_with (go_at_call 11; (with_reducible refine (CA.out _ HB.out.2).mono ?_); rintro e v5 ⟨rfl, b⟩; replace HB := Lib.hid (And.intro (blw HB.out.1 b) (HB.out.2.below b)); clear b)
    go_ret
    exact ⟨rfl, HB.out.1⟩
  · have CC := Lib.hid (Clone_any R hl (by omega))
    have C1 := Lib.hid (fun (W : World) (A : Option Addr) (c : Nat) (R : RR W A c l) (h : W1.Tab W) => Text_any R hl h)
    have C2 := Lib.hid (fun (W : World) (A : Option Addr) (c : Nat) (R : RR W A c l) => RText_any R hl)
    unfold GivesX at C1 C2
    have HR := Lib.hid R
    have HT := Lib.hid ht
    have q1 : ((strOf (text l).1).toList == (strOf (text l).1).toList) = true := by simp
    have q2 : ((text l).2 == (text l).2) = true := by simp
    clear ht R HB
    generalize strOf (text l).1 = S at *
    generalize (text l).2 = er at *
    go_enter Tryz.func6, Tryz.ntmps6
    go_wp2_with (first
      | (go_at_call 18; (with_reducible refine (CC.out).mono ?_); rintro e v1 ⟨A1, c1, rfl, h1, h2⟩; have H1 := Lib.hid (And.intro h2 (And.intro (HT.out.below h2) h1)); clear h1 h2)
      | (go_at_call 17; (with_reducible refine (C1.out _ _ _ H1.out.2.2 H1.out.2.1).mono ?_); rintro e v2 ⟨rfl, b⟩; have H2 := Lib.hid (And.intro (blw H1.out.1 b) (H1.out.2.1.below b)); clear b)
      | (go_at_call 19; (with_reducible refine (C2.out _ _ _ (HR.out.keep H2.out.1)).mono ?_); rintro e v3 ⟨rfl, b⟩; have H3 := Lib.hid (And.intro (blw H2.out.1 b) (H2.out.2.below b)); clear b)
      | (go_at_call 11; (with_reducible refine (CA.out _ H3.out.2).mono ?_); rintro e v5 ⟨rfl, b⟩; have H4 := Lib.hid (blw H3.out.1 b); clear b))
    go_ret
    exact ⟨rfl, H4.out⟩
end Go.Proofs.YtldnmdadlgjbgaaGreatDoor
