/- The program's reader of tokens: an expression in brackets. -/
import Derived.Deep.RegionLaw
import Derived.Deep.RegionHeld3
import Derived.Deep.RegionWith
import Derived.Test.YtplcmcealeeppaaGreatDoorM06
set_option linter.unusedVariables false
set_option linter.unusedSimpArgs false
set_option linter.unusedVariables false
set_option linter.unusedSimpArgs false
namespace Go.Proofs.YtplcmcealeeppaaGreatDoor
open Go Go.RowKit L8 L10

/-- What a reading function answers. -/
def RdX (w w' : World) (b : Nat) (A : Option Addr) (m c o : Nat) (r : Res) (en : Ending) : Prop := match r with
  | .ok (x, q) => ∃ B d, en = .returned (exV x B x.l.length d) ∧ TrN w' (fun k => w.heap.size ≤ k) B d x.l ∧ OKe x ∧ Rs w w' b A m c q o ∧ q ≤ m
  | .error er => en = FailE er ∧ w.grownBy w' (some b)
def zC : Array Value := #[.int .u8 0, .int .u8 0, .int .u8 0, .int .i32 0, .string ⟨#[]⟩, .slice none 0 0]
/-- A tree is laid into the result's box. -/
theorem fin6 {w W : World} {b m c q o d n : Nat} {A B : Option Addr} {y : Ex} (k : Rs w W b A m c q o) (hb : b < w.heap.size) (h : BoxS W w.heap.size 27 zC) (R : TrN W (fun k => w.heap.size + 1 ≤ k) B d y.l) :
    BoxS (set6 W w.heap.size (.int .u8 (y.k : Int)) (.int .u8 (y.o : Int)) (.int .u8 (y.t : Int)) (.int .i32 y.n) (.string (strOf y.s)) (.slice B n d)) w.heap.size 27 (exC y B n d)
    ∧ Rs w (set6 W w.heap.size (.int .u8 (y.k : Int)) (.int .u8 (y.o : Int)) (.int .u8 (y.t : Int)) (.int .i32 y.n) (.string (strOf y.s)) (.slice B n d)) b A m c q o
    ∧ TrN (set6 W w.heap.size (.int .u8 (y.k : Int)) (.int .u8 (y.o : Int)) (.int .u8 (y.t : Int)) (.int .i32 y.n) (.string (strOf y.s)) (.slice B n d)) (fun k => w.heap.size ≤ k) B d y.l := by
  refine ⟨box6_all _ _ _ _ _ _ h, k.set6 hb (Nat.le_refl _) _ _ _ _ _ _, ?_⟩
  exact (R.fr (fr_set6 W w.heap.size _ _ _ _ _ _) (fun j _ hj e => by omega)).mono fun j _ hj => by omega
/-- An expression and the bracket behind it. -/
def insF (R : Nat → Res) (s : Bs) (l : List Tk) (i : Nat) : Res := match R i with
  | .error e => .error e
  | .ok (y, q) => if (atB l q).tx = s then .ok (y, q + 1) else .error 100
/-- Reading is known, with d brackets still to be opened. -/
def RdOk (b : Nat) (A : Option Addr) (m c : Nat) (l : List Tk) (f : Nat) (R : Nat → Res) (o : Nat) : Prop := ∀ (W : World) (p : Nat), Rdr W b A m c l p o → p ≤ m → Calls Tryz.prog f #[.pointer (some ⟨b, 0, none⟩)] W fun en w' => RdX W w' b A m c o (R p) en
set_option maxRecDepth 100000 in
theorem rinside_any {w : World} {b m c p o : Nat} {A : Option Addr} {l : List Tk} {R : Nat → Res} (h : Rdr w b A m c l p o) (hp : p ≤ m) (ho : o < 32) (ih : RdOk b A m c l 43 R (o + 1)) (s : Bs) (hs : s ≠ []) {T : ByteArray} (hT : strOf s = T) : Calls Tryz.prog 96 #[.pointer (some ⟨b, 0, none⟩), .string T] w fun en w' => RdX w w' b A m c o (insF R s l p) en := by
  have hb := h.box.lt
  have hR := Lib.hid (Rs.new h)
  have hsz : (w.setCell ⟨b, 2, none⟩ (.int .i64 ((o : Int) + 1))).heap.size = w.heap.size := by show (w.heap.modify b _).size = _; rw [Array.size_modify]
  have hR1 := Lib.hid ((hR.out.seto (o + 1) (v := (o : Int) + 1) (by omega)).below (bal (b0 _) (.cells zC 27)))
  have hX1 : Hid (BoxS ((w.setCell ⟨b, 2, none⟩ (.int .i64 ((o : Int) + 1))).alloc (.cells zC 27)) w.heap.size 27 zC) := Lib.hid (by have := boxS_new (w.setCell ⟨b, 2, none⟩ (.int .i64 ((o : Int) + 1))) 27 zC; rwa [hsz] at this)
  have CI := Lib.hid (ih _ p (hR1.out.rdr h) hp)
  have hsV : ((w.setCell ⟨b, 2, none⟩ (.int .i64 ((o : Int) + 1))).alloc (.cells zC 27)).heap.size = w.heap.size + 1 := by rw [World.size_alloc, hsz]
  obtain ⟨⟨c0, c1, c2⟩, ⟨cf1, cf2⟩, _⟩ := (hR.out.below (bal (b0 w) (.cells zC 27))).cells
  have qo : ((o : Int) == 32) = false := by
    have : ¬ (o : Int) = 32 := by omega
    simp only [beq_eq_false_iff_ne]
    exact this
  have ho0 : (0 : Int) ≤ (o : Int) := by omega
  have ho1 : (o : Int) ≤ 31 := by omega
  cases hr : R p with
  | error er =>
    rw [hr] at CI
    rw [show insF R s l p = .error er by unfold insF; rw [hr]]
    have HE : Hid (∀ W : World, ((w.setCell ⟨b, 2, none⟩ (.int .i64 ((o : Int) + 1))).alloc (.cells zC 27)).grownBy W (some b) → w.grownBy W (some b)) := Lib.hid fun W g => g_trans hR1.out.grw g
    clear h hp hr ih hT hs hsz hsV
    unfold RdX FailE at *
    unfold zC at *
    dsimp only at *
    go_enter Tryz.func96, Tryz.ntmps96
    go_wp2_with (go_at_call 43; (with_reducible refine (CI.out).mono ?_); rintro e1 W1 ⟨rfl, k⟩; have H1 := Lib.hid (HE.out W1 k); clear k)
    exact ⟨rfl, rfl, H1.out⟩
  | ok v =>
    obtain ⟨y, q⟩ := v
    rw [hr] at CI
    have HK : Hid (∀ (W2 : World) (B : Option Addr) (d : Nat), TrN W2 (fun k => ((w.setCell ⟨b, 2, none⟩ (.int .i64 ((o : Int) + 1))).alloc (.cells zC 27)).heap.size ≤ k) B d y.l → Rs ((w.setCell ⟨b, 2, none⟩ (.int .i64 ((o : Int) + 1))).alloc (.cells zC 27)) W2 b A m c q (o + 1) → q ≤ m → Rdr (W2.alloc (.cells (exC y B y.l.length d) 27)) b A m c l q (o + 1) ∧ q ≤ m ∧ ∀ (W3 : World) (r : Nat), Rs (W2.alloc (.cells (exC y B y.l.length d) 27)) W3 b A m c r (o + 1) →
        (w.grownBy W3 (some b) ∧ (W3.cell? ⟨b, 2, none⟩ = some (.int .i64 ((o : Int) + 1)) ∧ W3.frozen? ⟨b, 2, none⟩ = false)) ∧ Rs w (W3.setCell ⟨b, 2, none⟩ (.int .i64 (o : Int))) b A m c r o ∧ BoxS (W3.setCell ⟨b, 2, none⟩ (.int .i64 (o : Int))) w.heap.size 27 zC ∧ BoxS (W3.setCell ⟨b, 2, none⟩ (.int .i64 (o : Int))) W2.heap.size 27 (exC y B y.l.length d) ∧ TrN (W3.setCell ⟨b, 2, none⟩ (.int .i64 (o : Int))) (fun k => w.heap.size + 1 ≤ k) B d y.l) := Lib.hid fun W2 B d t k hq => by
      have k2 := (hR1.out.step k).below (bal (b0 W2) (.cells (exC y B y.l.length d) 27))
      have hV2 : w.heap.size + 1 ≤ W2.heap.size := by have := k.grw.size; omega
      have hs2 : (W2.alloc (.cells (exC y B y.l.length d) 27)).heap.size = W2.heap.size + 1 := World.size_alloc _ _
      refine ⟨k2.rdr h, hq, fun W3 r k3 => ?_⟩
      have k4 := k2.step k3
      refine ⟨⟨k4.grw, k4.cells.1.2.2, k4.cells.2.1.2⟩, k4.seto o rfl, box_far (k3.kept ((k.kept hX1.out (by omega)).below (bal (b0 W2) _)) (by omega)) (by omega) _, box_far (k3.kept (boxS_new W2 _ _) (by omega)) (by omega) _, ?_⟩
      rw [hsV] at t
      exact ((t.keep (bal (b0 W2) _)).grow k3.grw fun j hj e => by injection e with e; omega).grow (g_set W3 b 2 _) fun j hj e => by injection e with e; omega
    have CT := Lib.hid (fun (W : World) (hh : Rdr W b A m c l q (o + 1)) (hq : q ≤ m) => rtakes_any hh hq s hT)
    have HF := Lib.hid (fun (W : World) (r d : Nat) (B : Option Addr) (k : Rs w W b A m c r o) (hx : BoxS W w.heap.size 27 zC) (R : TrN W (fun k => w.heap.size + 1 ≤ k) B d y.l) => fin6 (n := y.l.length) k hb hx R)
    have HZ := Lib.hid (fun (e : (atB l q).tx = s) => show q + 1 ≤ m by
      have := at_lt (l := l) (i := q) (fun e2 => hs (by rw [← e, e2]; rfl))
      have := h.len
      omega)
    have hq0 := Lib.hid hb
    by_cases he : (atB l q).tx = s
    · rw [show insF R s l p = .ok (y, q + 1) by unfold insF; rw [hr]; exact if_pos he]
      simp only [if_pos he, decide_eq_true he] at CT
      have hqm := HZ.out he
      clear h hp hr ih hT hs hsz hsV he HZ
      unfold RdX FailE set6 at *
      unfold exV exC zC at *
      dsimp only at *
      generalize strOf y.s = S at *
      go_enter Tryz.func96, Tryz.ntmps96
      go_wp2_with (first
        | (go_at_call 43; (with_reducible refine (CI.out).mono ?_); rintro e1 W1 ⟨B, d, rfl, t, ok, k, hq⟩; have H1 := Lib.hid (And.intro (HK.out W1 B d t k hq) ok); clear t k ok)
        | (go_at_call 67; (with_reducible refine (CT.out _ H1.out.1.1 H1.out.1.2.1).mono ?_); rintro e2 W3 ⟨rfl, k3⟩; have H2 := Lib.hid (H1.out.1.2.2 W3 _ k3); clear k3; obtain ⟨⟨_, d2, df2⟩, _⟩ := H2.out; obtain ⟨x0, x1, x2, x3, x4, x5⟩ := box6 H2.out.2.2.1; obtain ⟨f0, f1, f2, f3, f4, f5⟩ := box6f H2.out.2.2.1; obtain ⟨y0, y1, y2, y3, y4, y5⟩ := box6 H2.out.2.2.2.1))
      clear x0 x1 x2 x3 x4 x5 f0 f1 f2 f3 f4 f5 y0 y1 y2 y3 y4 y5
      have H3 := Lib.hid (HF.out _ (q + 1) d B H2.out.2.1 H2.out.2.2.1 H2.out.2.2.2.2)
      generalize W3.setCell ⟨b, 2, none⟩ (.int .i64 (o : Int)) = W4 at *
      generalize (((((W4.setCell ⟨w.heap.size, 0, none⟩ (.int .u8 (y.k : Int))).setCell ⟨w.heap.size, 1, none⟩ (.int .u8 (y.o : Int))).setCell ⟨w.heap.size, 2, none⟩ (.int .u8 (y.t : Int))).setCell ⟨w.heap.size, 3, none⟩ (.int .i32 y.n)).setCell ⟨w.heap.size, 4, none⟩ (.string S)).setCell ⟨w.heap.size, 5, none⟩ (.slice B y.l.length d) = X5 at *
      obtain ⟨y0, y1, y2, y3, y4, y5⟩ := box6 H3.out.1
      refine bodyPost_ret (v := .agg #[.int .u8 (y.k : Int), .int .u8 (y.o : Int), .int .u8 (y.t : Int), .int .i32 y.n, .string S, .slice B y.l.length d]) (by simp [results, Tryz.results96, go_sem, y0, y1, y2, y3, y4, y5]) rfl ⟨B, d, rfl, H3.out.2.2, H1.out.2, H3.out.2.1, hqm⟩
    · rw [show insF R s l p = .error 100 by unfold insF; rw [hr]; exact if_neg he]
      simp only [if_neg he, decide_eq_false he] at CT
      clear h hp hr ih hT hs hsz hsV he HZ
      unfold RdX FailE set6 at *
      unfold exV exC zC at *
      dsimp only at *
      generalize strOf y.s = S at *
      go_enter Tryz.func96, Tryz.ntmps96
      go_wp2_with (first
        | (go_at_call 43; (with_reducible refine (CI.out).mono ?_); rintro e1 W1 ⟨B, d, rfl, t, ok, k, hq⟩; have H1 := Lib.hid (And.intro (HK.out W1 B d t k hq) ok); clear t k ok)
        | (go_at_call 67; (with_reducible refine (CT.out _ H1.out.1.1 H1.out.1.2.1).mono ?_); rintro e2 W3 ⟨rfl, k3⟩; have H2 := Lib.hid (H1.out.1.2.2 W3 _ k3); clear k3))
      exact ⟨rfl, rfl, H2.out.1.1⟩
end Go.Proofs.YtplcmcealeeppaaGreatDoor
/- The program's reader of tokens: a word, an operand. -/
set_option linter.unusedVariables false
set_option linter.unusedSimpArgs false
namespace Go.Proofs.YtplcmcealeeppaaGreatDoor
open Go Go.RowKit L8 L10

/-- A tree without parts is laid into the result's box. -/
theorem finL {w W : World} {b m c q o : Nat} {A : Option Addr} (x : Ex) (hx : x.l = []) (ok : OKe x) (k : Rs w W b A m c q o) (hb : b < w.heap.size) (h : BoxS W w.heap.size 27 zC) (hq : q ≤ m) :
    BoxS (set6 W w.heap.size (.int .u8 (x.k : Int)) (.int .u8 (x.o : Int)) (.int .u8 (x.t : Int)) (.int .i32 x.n) (.string (strOf x.s)) (.slice none 0 0)) w.heap.size 27 (exC x none 0 0)
    ∧ RdX w (set6 W w.heap.size (.int .u8 (x.k : Int)) (.int .u8 (x.o : Int)) (.int .u8 (x.t : Int)) (.int .i32 x.n) (.string (strOf x.s)) (.slice none 0 0)) b A m c o (.ok (x, q)) (.returned (exV x none 0 0)) := by
  obtain ⟨h1, h2, h3⟩ := fin6 (y := x) (B := none) (d := 0) (n := 0) k hb h (by rw [hx]; exact TrN.nil _ _)
  exact ⟨h1, none, 0, by rw [hx]; rfl, h3, ok, h2, hq⟩
def wordF (I : Nat → Res) (s : Bs) (i : Nat) : Res := if s = wFalse then .ok (.mk 3 0 0 0 [] [], i) else if s = wTrue then .ok (.mk 3 0 0 1 [] [], i) else if s = [40] then I i else .error 100
theorem index_tr0 (a b : Value) (W : World) : (Instr.index 107 (.agg #[a, b]) (.int .i64 0)).run Tryz.prog W = .ok a W := by kernel_rfl
theorem index_tr1 (a b : Value) (W : World) : (Instr.index 107 (.agg #[a, b]) (.int .i64 1)).run Tryz.prog W = .ok b W := by kernel_rfl
/-- Reading an expression in brackets is known. -/
def InOk (b : Nat) (A : Option Addr) (m c : Nat) (l : List Tk) (I : Bs → Nat → Res) (o : Nat) : Prop := ∀ (s : Bs), s ≠ [] → ∀ (T : ByteArray), strOf s = T → ∀ (W : World) (p : Nat), Rdr W b A m c l p o → p ≤ m → Calls Tryz.prog 96 #[.pointer (some ⟨b, 0, none⟩), .string T] W fun en w' => RdX W w' b A m c o (I s p) en
set_option maxRecDepth 100000 in
set_option maxHeartbeats 1000000 in
theorem rword_any {w : World} {b m c p o : Nat} {A : Option Addr} {l : List Tk} {I : Bs → Nat → Res} (h : Rdr w b A m c l p o) (hp : p ≤ m) (HI : InOk b A m c l I o) (s : Bs) : Calls Tryz.prog 97 #[.pointer (some ⟨b, 0, none⟩), .string (strOf s)] w fun en w' => RdX w w' b A m c o (wordF (I [41]) s p) en := by
  have hb := h.box.lt
  have hV := bal (b0 w) (.cells zC 27)
  have hX := Lib.hid (boxS_new w 27 zC)
  have hR := Lib.hid ((Rs.new h).below hV)
  have hsV : (w.alloc (.cells zC 27)).heap.size = w.heap.size + 1 := World.size_alloc _ _
  have CI := Lib.hid (HI [41] (by decide) ⟨#[41]⟩ rfl _ p (hR.out.rdr h) hp)
  obtain ⟨t0, t1⟩ := (h.t10.below hV).tr
  have HL : Hid (∀ (n : Int), n = 0 ∨ n = 1 → BoxS (set6 (w.alloc (.cells zC 27)) w.heap.size (.int .u8 3) (.int .u8 0) (.int .u8 0) (.int .i32 n) (.string ⟨#[]⟩) (.slice none 0 0)) w.heap.size 27 #[.int .u8 3, .int .u8 0, .int .u8 0, .int .i32 n, .string ⟨#[]⟩, .slice none 0 0] ∧ RdX w (set6 (w.alloc (.cells zC 27)) w.heap.size (.int .u8 3) (.int .u8 0) (.int .u8 0) (.int .i32 n) (.string ⟨#[]⟩) (.slice none 0 0)) b A m c o (.ok (.mk 3 0 0 n [] [], p)) (.returned (.agg #[.int .u8 3, .int .u8 0, .int .u8 0, .int .i32 n, .string ⟨#[]⟩, .slice none 0 0]))) :=
    Lib.hid (fun n hn => finL (.mk 3 0 0 n [] []) rfl ⟨by show 3 < 256; decide, by show 0 < 256; decide, by show 0 < 256; decide, by show -2147483648 ≤ n; omega, by show n ≤ 2147483647; omega, by simp [Ex.s, maxLen]⟩ hR.out hb hX.out hp)
  have q0 := eqS s wFalse
  have q1 := eqS s wTrue
  have q2 := eqS s [40]
  have e40 : (strOf [40]).toList = [40] := toList_strOf _
  rw [e40] at q2
  clear e40
  have HW0 : Hid (s = wFalse → wordF (I [41]) s p = .ok (.mk 3 0 0 0 [] [], p)) := Lib.hid fun e => by unfold wordF; rw [if_pos e]
  have HW1 : Hid (s ≠ wFalse → s = wTrue → wordF (I [41]) s p = .ok (.mk 3 0 0 1 [] [], p)) := Lib.hid fun e1 e => by unfold wordF; rw [if_neg e1, if_pos e]
  have HW2 : Hid (s ≠ wFalse → s ≠ wTrue → s = [40] → wordF (I [41]) s p = I [41] p) := Lib.hid fun e1 e2 e => by unfold wordF; rw [if_neg e1, if_neg e2, if_pos e]
  have HW3 : Hid (s ≠ wFalse → s ≠ wTrue → s ≠ [40] → wordF (I [41]) s p = .error 100) := Lib.hid fun e1 e2 e => by unfold wordF; rw [if_neg e1, if_neg e2, if_neg e]
  have HF : Hid (∀ (W : World) (q d : Nat) (B : Option Addr) (y : Ex) (k : Rs (w.alloc (.cells zC 27)) W b A m c q o) (R : TrN W (fun k => (w.alloc (.cells zC 27)).heap.size ≤ k) B d y.l), _) := Lib.hid (fun W q d B y k R => fin6 (n := y.l.length) (hR.out.step k) hb (k.kept hX.out (by omega)) (by rw [hsV] at R; exact R))
  have HX6 : Hid (∀ (W : World) (q : Nat), Rs (w.alloc (.cells zC 27)) W b A m c q o → BoxS W w.heap.size 27 zC) := Lib.hid fun W q k => k.kept hX.out (by omega)
  have HG : Hid (∀ W : World, (w.alloc (.cells zC 27)).grownBy W (some b) → w.grownBy W (some b)) := Lib.hid fun W g => g_trans hR.out.grw g
  obtain ⟨x0, x1, x2, x3, x4, x5⟩ := box6 hX.out
  obtain ⟨f0, f1, f2, f3, f4, f5⟩ := box6f hX.out
  have HN := Lib.hid (Rs.below (Rs.new h) hV).grw
  clear h hp hV hsV hb HI
  generalize wordF (I [41]) s p = r at *
  generalize I [41] p = ri at *
  generalize hS0 : strOf wFalse = S0 at *
  generalize hS1 : strOf wTrue = S1 at *
  clear hS0 hS1
  generalize hS : strOf s = S at *
  clear hS
  unfold zC set6 at *
  have hi0 := fun (W : World) => index_tr0 (.string S0) (.string S1) W
  have hi1 := fun (W : World) => index_tr1 (.string S0) (.string S1) W
  go_enter Tryz.func97, Tryz.ntmps97
  go_wp2
  generalize w.alloc (.cells #[.int .u8 0, .int .u8 0, .int .u8 0, .int .i32 0, .string ⟨#[]⟩, .slice none 0 0] 27) = W1 at *
  go_loopw [8] (fun ι wr => (ι = .int .i64 0 ∨ (ι = .int .i64 1 ∧ Hid (s ≠ wFalse)) ∨ (ι = .int .i64 2 ∧ Hid (s ≠ wFalse ∧ s ≠ wTrue))) ∧ wr = W1) (fun ι _ => 2 - (intOf ι).toNat)
  case atStart => exact ⟨.inl rfl, rfl⟩
  case round =>
    obtain ⟨hrel, rfl⟩ := hrel
    rcases hrel with rfl | ⟨rfl, h1⟩ | ⟨rfl, h2⟩
    · by_cases he : s = wFalse
      · rw [decide_eq_true he] at q0
        have hr := HW0.out he
        subst hr
        have H3 := Lib.hid (HL.out 0 (.inl rfl))
        clear he
        go_wp2
        clear x0 x1 x2 x3 x4 x5 f0 f1 f2 f3 f4 f5
        generalize (((((wr.setCell ⟨w.heap.size, 0, none⟩ (.int .u8 3)).setCell ⟨w.heap.size, 1, none⟩ (.int .u8 0)).setCell ⟨w.heap.size, 2, none⟩ (.int .u8 0)).setCell ⟨w.heap.size, 3, none⟩ (.int .i32 0)).setCell ⟨w.heap.size, 4, none⟩ (.string ⟨#[]⟩)).setCell ⟨w.heap.size, 5, none⟩ (.slice none 0 0) = X5 at *
        obtain ⟨y0, y1, y2, y3, y4, y5⟩ := box6 H3.out.1
        refine bodyPost_ret (v := .agg #[.int .u8 3, .int .u8 0, .int .u8 0, .int .i32 0, .string ⟨#[]⟩, .slice none 0 0]) (by simp [results, Tryz.results97, go_sem, y0, y1, y2, y3, y4, y5]) rfl H3.out.2
      · rw [decide_eq_false he] at q0
        have HE := Lib.hid he
        clear he
        go_wp2
        go_roundw
        case rel => exact ⟨.inr (.inl ⟨by go_num, HE⟩), trivial⟩
        case measure => simp [intOf]
    · by_cases he : s = wTrue
      · rw [decide_eq_true he] at q1
        have hr := HW1.out h1.out he
        subst hr
        have H3 := Lib.hid (HL.out 1 (.inr rfl))
        clear he
        go_wp2
        clear x0 x1 x2 x3 x4 x5 f0 f1 f2 f3 f4 f5
        generalize (((((wr.setCell ⟨w.heap.size, 0, none⟩ (.int .u8 3)).setCell ⟨w.heap.size, 1, none⟩ (.int .u8 0)).setCell ⟨w.heap.size, 2, none⟩ (.int .u8 0)).setCell ⟨w.heap.size, 3, none⟩ (.int .i32 1)).setCell ⟨w.heap.size, 4, none⟩ (.string ⟨#[]⟩)).setCell ⟨w.heap.size, 5, none⟩ (.slice none 0 0) = X5 at *
        obtain ⟨y0, y1, y2, y3, y4, y5⟩ := box6 H3.out.1
        refine bodyPost_ret (v := .agg #[.int .u8 3, .int .u8 0, .int .u8 0, .int .i32 1, .string ⟨#[]⟩, .slice none 0 0]) (by simp [results, Tryz.results97, go_sem, y0, y1, y2, y3, y4, y5]) rfl H3.out.2
      · rw [decide_eq_false he] at q1
        have HE := Lib.hid he
        clear he
        go_wp2
        go_roundw
        case rel => exact ⟨.inr (.inr ⟨by go_num, Lib.hid ⟨h1.out, HE.out⟩⟩), trivial⟩
        case measure => simp [intOf]
    · by_cases he : s = [40]
      · rw [decide_eq_true he] at q2
        have hr := HW2.out h2.out.1 h2.out.2 he
        subst hr
        clear he
        cases r with
        | error er =>
          unfold RdX FailE at *
          dsimp only at *
          go_wp2_with (go_at_call 96; (with_reducible refine (CI.out).mono ?_); rintro e1 W2 ⟨rfl, k⟩; have H1 := Lib.hid (HG.out W2 k); clear k)
          exact ⟨rfl, rfl, H1.out⟩
        | ok v =>
          obtain ⟨y, q⟩ := v
          have HF2 := Lib.hid (fun (W : World) (d : Nat) (B : Option Addr) => HF.out W q d B y)
          clear HF
          unfold RdX FailE at *
          unfold exV exC at *
          dsimp only at *
          generalize hS5 : strOf y.s = S5 at *
          have HS5 := Lib.hid hS5
          clear hS5
          clear x0 x1 x2 x3 x4 x5 f0 f1 f2 f3 f4 f5
          go_wp2_with (go_at_call 96; (with_reducible refine (CI.out).mono ?_); rintro e1 W2 ⟨B, d, rfl, t, ok, k, hq⟩; have H1 := Lib.hid (And.intro ok hq); have H2 := Lib.hid (HX6.out W2 q k); have H3 := Lib.hid (HF2.out W2 d B k t); clear t k ok hq; obtain ⟨x0, x1, x2, x3, x4, x5⟩ := box6 H2.out; obtain ⟨f0, f1, f2, f3, f4, f5⟩ := box6f H2.out)
          clear x0 x1 x2 x3 x4 x5 f0 f1 f2 f3 f4 f5
          generalize (((((W2.setCell ⟨w.heap.size, 0, none⟩ (.int .u8 (y.k : Int))).setCell ⟨w.heap.size, 1, none⟩ (.int .u8 (y.o : Int))).setCell ⟨w.heap.size, 2, none⟩ (.int .u8 (y.t : Int))).setCell ⟨w.heap.size, 3, none⟩ (.int .i32 y.n)).setCell ⟨w.heap.size, 4, none⟩ (.string S5)).setCell ⟨w.heap.size, 5, none⟩ (.slice B y.l.length d) = X5 at *
          obtain ⟨y0, y1, y2, y3, y4, y5⟩ := box6 H3.out.1
          refine bodyPost_ret (v := .agg #[.int .u8 (y.k : Int), .int .u8 (y.o : Int), .int .u8 (y.t : Int), .int .i32 y.n, .string S5, .slice B y.l.length d]) (by simp [results, Tryz.results97, go_sem, y0, y1, y2, y3, y4, y5]) rfl ⟨B, d, (by rw [← HS5.out]; rfl), H3.out.2.2, H1.out.1, H3.out.2.1, H1.out.2⟩
      · rw [decide_eq_false he] at q2
        have hr := HW3.out h2.out.1 h2.out.2 he
        subst hr
        clear he
        unfold RdX FailE at *
        dsimp only at *
        go_wp2
        exact ⟨rfl, rfl, HN.out⟩
end Go.Proofs.YtplcmcealeeppaaGreatDoor
/- The program's reader of tokens: brackets beyond the limit. -/
set_option linter.unusedVariables false
set_option linter.unusedSimpArgs false
namespace Go.Proofs.YtplcmcealeeppaaGreatDoor
open Go Go.RowKit L8 L10

set_option maxRecDepth 100000 in
theorem rinside_top {w : World} {b m c p : Nat} {A : Option Addr} {l : List Tk} (h : Rdr w b A m c l p 32) (T : ByteArray) : Calls Tryz.prog 96 #[.pointer (some ⟨b, 0, none⟩), .string T] w fun en w' => RdX w w' b A m c 32 (.error 3) en := by
  have hR := (Rs.new h).below (bal (b0 w) (.cells zC 27))
  obtain ⟨⟨c0, c1, c2⟩, ⟨cf1, cf2⟩, _⟩ := hR.cells
  have HN := Lib.hid hR.grw
  have c3 : (w.alloc (.cells zC 27)).cell? ⟨b, 2, none⟩ = some (.int .i64 32) := c2
  clear c2 hR h
  unfold zC at *
  unfold RdX FailE
  dsimp only
  go_enter Tryz.func96, Tryz.ntmps96
  go_wp2
  exact ⟨rfl, rfl, HN.out⟩
/-- An expression in brackets, o of which are open already. -/
def inF (R : Nat → Res) (o : Nat) (l : List Tk) (s : Bs) (i : Nat) : Res := if o = 32 then .error 3 else insF R s l i
theorem inside_ok {b m c o : Nat} {A : Option Addr} {l : List Tk} {R : Nat → Res} (ho : o ≤ 32) (ih : o < 32 → RdOk b A m c l 43 R (o + 1)) : InOk b A m c l (inF R o l) o := fun s hs T hT W p h hp => by
  unfold inF
  by_cases h32 : o = 32
  · subst h32
    rw [if_pos rfl]
    exact rinside_top h T
  · rw [if_neg h32]
    exact rinside_any h hp (by omega) (ih (by omega)) s hs hT
/-- What readOperand answers. -/
def operF (I : Bs → Nat → Res) (l : List Tk) (i : Nat) : Res :=
  if (atB l i).k = 3 then .ok (.mk 1 0 0 (atB l i).n [] [], i + 1)
  else if (atB l i).k = 4 then .ok (.mk 2 0 0 (atB l i).n [] [], i + 1)
  else if (atB l i).k = 1 then (if (atB l (i + 1)).tx = [91] then wrapF (I [93] (i + 2)) fun y => .mk 5 0 0 0 (atB l i).tx [y] else .ok (.mk 4 0 0 0 (atB l i).tx [], i + 1))
  else wordF (I [41]) (atB l i).tx (i + 1)
theorem oper_tk {R : Nat → Res} {o : Nat} {top : Bool} (ht : top = decide (o = 32)) (l : List Tk) (i : Nat) : operF (inF R o l) l i = takesF R top l i := by
  have hz := at_z l i
  obtain ⟨k3, k4, k1⟩ := k_ntx hz
  obtain ⟨_, w1, w2, w3, w4, w5, w6⟩ := tx_words hz
  obtain ⟨_, _, _, _, _, v5, v6⟩ := tx_words (at_z l (i + 1))
  have hrb : ∀ j, (atB l j).tx = [93] ↔ atB l j = rb := fun j => (tx_words (at_z l j)).2.2.2.2.2.2
  have hrp : ∀ j, (atB l j).tx = [41] ↔ atB l j = rp := fun j => (tx_words (at_z l j)).2.2.2.2.1
  unfold operF takesF
  by_cases h3 : (atB l i).k = 3
  · rw [if_pos h3, if_pos h3]
  rw [if_neg h3, if_neg h3]
  by_cases h4 : (atB l i).k = 4
  · rw [if_pos h4, if_pos h4]
  rw [if_neg h4, if_neg h4]
  by_cases h1 : (atB l i).k = 1
  · have n1 : atB l i ≠ kw wFalse := fun e => by rw [e] at h1; exact absurd h1 (by decide)
    have n2 : atB l i ≠ kw wTrue := fun e => by rw [e] at h1; exact absurd h1 (by decide)
    rw [if_pos h1, if_neg n1, if_neg n2, if_pos h1]
    unfold namedF
    by_cases hb : (atB l (i + 1)).tx = [91]
    · rw [if_pos hb, if_pos (v5.1 hb)]
      unfold inF
      subst ht
      by_cases ho : o = 32
      · rw [if_pos ho, if_pos (decide_eq_true ho)]; rfl
      · rw [if_neg ho, decide_eq_false ho, if_neg (by decide)]
        unfold insF wrapF
        cases hr : R (i + 2) with
        | error e => rfl
        | ok v =>
          obtain ⟨y, q⟩ := v
          dsimp only
          by_cases hq : (atB l q).tx = [93]
          · rw [if_pos hq, if_pos ((hrb q).1 hq)]
          · rw [if_neg hq, if_neg (fun e => hq ((hrb q).2 e))]
    · rw [if_neg hb, if_neg (fun e => hb (v5.2 e))]
  rw [if_neg h1]
  unfold wordF
  by_cases hF : (atB l i).tx = wFalse
  · rw [if_pos hF, if_pos (w1.1 hF)]
  rw [if_neg hF, if_neg (fun e => hF (w1.2 e))]
  by_cases hT : (atB l i).tx = wTrue
  · rw [if_pos hT, if_pos (w2.1 hT)]
  rw [if_neg hT, if_neg (fun e => hT (w2.2 e)), if_neg h1]
  by_cases hp : (atB l i).tx = [40]
  · rw [if_pos hp, if_pos (w3.1 hp)]
    unfold inF
    subst ht
    by_cases ho : o = 32
    · rw [if_pos ho, if_pos (decide_eq_true ho)]
    · rw [if_neg ho, decide_eq_false ho, if_neg (by decide)]
      unfold insF
      cases hr : R (i + 1) with
      | error e => rfl
      | ok v =>
        obtain ⟨y, q⟩ := v
        dsimp only
        by_cases hq : (atB l q).tx = [41]
        · rw [if_pos hq, if_pos ((hrp q).1 hq)]
        · rw [if_neg hq, if_neg (fun e => hq ((hrp q).2 e))]
  · rw [if_neg hp, if_neg (fun e => hp (w3.2 e))]
end Go.Proofs.YtplcmcealeeppaaGreatDoor
/- The program's reader of tokens: no word; operands that are one token. -/
set_option linter.unusedVariables false
set_option linter.unusedSimpArgs false
namespace Go.Proofs.YtplcmcealeeppaaGreatDoor
open Go Go.RowKit L8 L10

set_option maxRecDepth 100000 in
set_option maxHeartbeats 1000000 in
theorem rword_none {w : World} {b m c p o : Nat} {A : Option Addr} {l : List Tk} (h : Rdr w b A m c l p o) : Calls Tryz.prog 97 #[.pointer (some ⟨b, 0, none⟩), .string ⟨#[]⟩] w fun en w' => RdX w w' b A m c o (.error 100) en := by
  have hV := bal (b0 w) (.cells zC 27)
  have hR := Lib.hid ((Rs.new h).below hV)
  obtain ⟨t0, t1⟩ := (h.t10.below hV).tr
  have q0 : ((strOf []).toList == (strOf wFalse).toList) = false := (eqS [] wFalse).trans (by decide)
  have q1 : ((strOf []).toList == (strOf wTrue).toList) = false := (eqS [] wTrue).trans (by decide)
  have q2 : ((strOf []).toList == [40]) = false := by rw [toList_strOf]; decide
  have HN := Lib.hid hR.out.grw
  rw [show (⟨#[]⟩ : ByteArray) = strOf [] from rfl]
  clear h hV hR
  generalize hS0 : strOf wFalse = S0 at *
  generalize hS1 : strOf wTrue = S1 at *
  clear hS0 hS1
  generalize hS : strOf [] = S at *
  clear hS
  unfold RdX FailE
  dsimp only
  unfold zC at *
  have hi0 := fun (W : World) => index_tr0 (.string S0) (.string S1) W
  have hi1 := fun (W : World) => index_tr1 (.string S0) (.string S1) W
  go_enter Tryz.func97, Tryz.ntmps97
  go_wp2
  generalize w.alloc (.cells #[.int .u8 0, .int .u8 0, .int .u8 0, .int .i32 0, .string ⟨#[]⟩, .slice none 0 0] 27) = W1 at *
  go_loopw [8] (fun ι wr => (ι = .int .i64 0 ∨ ι = .int .i64 1 ∨ ι = .int .i64 2) ∧ wr = W1) (fun ι _ => 2 - (intOf ι).toNat)
  case atStart => exact ⟨.inl rfl, rfl⟩
  case round =>
    obtain ⟨hrel, rfl⟩ := hrel
    rcases hrel with rfl | rfl | rfl
    · go_wp2
      go_roundw
      case rel => exact ⟨.inr (.inl (by go_num)), trivial⟩
      case measure => simp [intOf]
    · go_wp2
      go_roundw
      case rel => exact ⟨.inr (.inr (by go_num)), trivial⟩
      case measure => simp [intOf]
    · go_wp2
      exact ⟨rfl, rfl, HN.out⟩
end Go.Proofs.YtplcmcealeeppaaGreatDoor
/- The program's reader of tokens: operands that are one token. -/
set_option linter.unusedVariables false
set_option linter.unusedSimpArgs false
namespace Go.Proofs.YtplcmcealeeppaaGreatDoor
open Go Go.RowKit L8 L10

theorem at_ok {l : List Tk} (h : OKL l) (i : Nat) : (atB l i).tx.length ≤ maxLen ∧ -2147483648 ≤ (atB l i).n ∧ (atB l i).n ≤ 2147483647 := by
  unfold atB
  by_cases hm : may (l.getD i z0) = true
  · rw [if_pos hm]
    have hx : OKx (l.getD i r0) := h.get i
    have e : l.getD i z0 = l.getD i r0 := rfl
    rw [e]
    obtain ⟨h1, h2, h3⟩ := hx
    exact ⟨h1, h3⟩
  · rw [if_neg hm]
    exact ⟨by simp [z0, maxLen], by decide, by decide⟩
/-- The worlds on readOperand's way: the result's box, the token. -/
theorem oper_st {w : World} {b m c p o : Nat} {A : Option Addr} {l : List Tk} (h : Rdr w b A m c l p o) (hp : p ≤ m) :
    Hid (Calls Tryz.prog 95 #[.pointer (some ⟨b, 0, none⟩)] (w.alloc (.cells zC 27)) fun en w' => ∃ a : Int, en = .returned (.agg (NxT (atB l p) a)) ∧ Rs (w.alloc (.cells zC 27)) w' b A m c (p + 1) o)
    ∧ Hid (∀ (W1 : World) (a : Int), Rs (w.alloc (.cells zC 27)) W1 b A m c (p + 1) o → Rs w (W1.alloc (.cells (NxT (atB l p) a) 47)) b A m c (p + 1) o ∧ BoxS (W1.alloc (.cells (NxT (atB l p) a) 47)) w.heap.size 27 zC ∧ BoxS (W1.alloc (.cells (NxT (atB l p) a) 47)) W1.heap.size 47 (NxT (atB l p) a) ∧ w.heap.size + 1 ≤ W1.heap.size) := by
  have hb := h.box.lt
  have hV := bal (b0 w) (.cells zC 27)
  have hR := (Rs.new h).below hV
  refine ⟨Lib.hid (rtake_any (hR.rdr h) hp), Lib.hid fun W1 a k => ⟨(hR.step k).below (bal (b0 W1) _), (k.kept (boxS_new w _ zC) (by omega)).below (bal (b0 W1) _), boxS_new W1 _ _, ?_⟩⟩
  have := k.grw.size
  rw [World.size_alloc] at this
  exact this
set_option maxRecDepth 100000 in
set_option maxHeartbeats 1000000 in
theorem roper_num {w : World} {b m c p o : Nat} {A : Option Addr} {l : List Tk} (h : Rdr w b A m c l p o) (hp : p ≤ m) (h3 : (atB l p).k = 3) : Calls Tryz.prog 70 #[.pointer (some ⟨b, 0, none⟩)] w fun en w' => RdX w w' b A m c o (.ok (.mk 1 0 0 (atB l p).n [] [], p + 1)) en := by
  obtain ⟨CT, HK⟩ := oper_st h hp
  have hb := h.box.lt
  have hn := (at_ok h.rr.ok p).2
  have hq : p + 1 ≤ m := by
    have := at_lt (l := l) (i := p) (fun e => by rw [e] at h3; exact absurd h3 (by decide))
    have := h.len
    omega
  clear h hp
  generalize atB l p = x at *
  obtain ⟨xk, xa, xt, xn⟩ := x
  dsimp only [NxT] at *
  have qk : ((xk : Int) == 3) = true := by rw [h3]; rfl
  clear h3
  generalize strOf xt = S at *
  have HL : Hid (∀ W : World, Rs w W b A m c (p + 1) o → BoxS W w.heap.size 27 zC → BoxS (set6 W w.heap.size (.int .u8 1) (.int .u8 0) (.int .u8 0) (.int .i32 xn) (.string ⟨#[]⟩) (.slice none 0 0)) w.heap.size 27 #[.int .u8 1, .int .u8 0, .int .u8 0, .int .i32 xn, .string ⟨#[]⟩, .slice none 0 0] ∧ RdX w (set6 W w.heap.size (.int .u8 1) (.int .u8 0) (.int .u8 0) (.int .i32 xn) (.string ⟨#[]⟩) (.slice none 0 0)) b A m c o (.ok (.mk 1 0 0 xn [] [], p + 1)) (.returned (.agg #[.int .u8 1, .int .u8 0, .int .u8 0, .int .i32 xn, .string ⟨#[]⟩, .slice none 0 0]))) :=
    Lib.hid (fun W k hx => finL (.mk 1 0 0 xn [] []) rfl ⟨by show 1 < 256; decide, by show 0 < 256; decide, by show 0 < 256; decide, hn.1, hn.2, by simp [Ex.s, maxLen]⟩ k hb hx hq)
  clear hn hq hb
  unfold zC set6 at *
  go_enter Tryz.func70, Tryz.ntmps70
  go_wp2_with (go_at_call 95; (with_reducible refine (CT.out).mono ?_); rintro e1 W1 ⟨a, rfl, k⟩; have H1 := Lib.hid (HK.out W1 a k); clear k; obtain ⟨x0, x1, x2, x3, x4, x5⟩ := box6 H1.out.2.1; obtain ⟨f0, f1, f2, f3, f4, f5⟩ := box6f H1.out.2.1; obtain ⟨⟨y0, y1, y2, y3⟩, _⟩ := box4 H1.out.2.2.1)
  clear x0 x1 x2 x3 x4 x5 f0 f1 f2 f3 f4 f5 y0 y1 y2 y3
  have H3 := Lib.hid (HL.out _ H1.out.1 H1.out.2.1)
  generalize W1.alloc (.cells #[.int .u8 (xk : Int), .int .i64 a, .string S, .int .i32 xn] 47) = W2 at *
  generalize (((((W2.setCell ⟨w.heap.size, 0, none⟩ (.int .u8 1)).setCell ⟨w.heap.size, 1, none⟩ (.int .u8 0)).setCell ⟨w.heap.size, 2, none⟩ (.int .u8 0)).setCell ⟨w.heap.size, 3, none⟩ (.int .i32 xn)).setCell ⟨w.heap.size, 4, none⟩ (.string ⟨#[]⟩)).setCell ⟨w.heap.size, 5, none⟩ (.slice none 0 0) = X5 at *
  obtain ⟨y0, y1, y2, y3, y4, y5⟩ := box6 H3.out.1
  refine bodyPost_ret (v := .agg #[.int .u8 1, .int .u8 0, .int .u8 0, .int .i32 xn, .string ⟨#[]⟩, .slice none 0 0]) (by simp [results, Tryz.results70, go_sem, y0, y1, y2, y3, y4, y5]) rfl H3.out.2
set_option maxRecDepth 100000 in
set_option maxHeartbeats 1000000 in
theorem roper_byte {w : World} {b m c p o : Nat} {A : Option Addr} {l : List Tk} (h : Rdr w b A m c l p o) (hp : p ≤ m) (h3 : (atB l p).k = 4) : Calls Tryz.prog 70 #[.pointer (some ⟨b, 0, none⟩)] w fun en w' => RdX w w' b A m c o (.ok (.mk 2 0 0 (atB l p).n [] [], p + 1)) en := by
  obtain ⟨CT, HK⟩ := oper_st h hp
  have hb := h.box.lt
  have hn := (at_ok h.rr.ok p).2
  have hq : p + 1 ≤ m := by
    have := at_lt (l := l) (i := p) (fun e => by rw [e] at h3; exact absurd h3 (by decide))
    have := h.len
    omega
  clear h hp
  generalize atB l p = x at *
  obtain ⟨xk, xa, xt, xn⟩ := x
  dsimp only [NxT] at *
  have qk0 : ((xk : Int) == 3) = false := by rw [h3]; rfl
  have qk : ((xk : Int) == 4) = true := by rw [h3]; rfl
  clear h3
  generalize strOf xt = S at *
  have HL : Hid (∀ W : World, Rs w W b A m c (p + 1) o → BoxS W w.heap.size 27 zC → BoxS (set6 W w.heap.size (.int .u8 2) (.int .u8 0) (.int .u8 0) (.int .i32 xn) (.string ⟨#[]⟩) (.slice none 0 0)) w.heap.size 27 #[.int .u8 2, .int .u8 0, .int .u8 0, .int .i32 xn, .string ⟨#[]⟩, .slice none 0 0] ∧ RdX w (set6 W w.heap.size (.int .u8 2) (.int .u8 0) (.int .u8 0) (.int .i32 xn) (.string ⟨#[]⟩) (.slice none 0 0)) b A m c o (.ok (.mk 2 0 0 xn [] [], p + 1)) (.returned (.agg #[.int .u8 2, .int .u8 0, .int .u8 0, .int .i32 xn, .string ⟨#[]⟩, .slice none 0 0]))) :=
    Lib.hid (fun W k hx => finL (.mk 2 0 0 xn [] []) rfl ⟨by show 2 < 256; decide, by show 0 < 256; decide, by show 0 < 256; decide, hn.1, hn.2, by simp [Ex.s, maxLen]⟩ k hb hx hq)
  clear hn hq hb
  unfold zC set6 at *
  go_enter Tryz.func70, Tryz.ntmps70
  go_wp2_with (go_at_call 95; (with_reducible refine (CT.out).mono ?_); rintro e1 W1 ⟨a, rfl, k⟩; have H1 := Lib.hid (HK.out W1 a k); clear k; obtain ⟨x0, x1, x2, x3, x4, x5⟩ := box6 H1.out.2.1; obtain ⟨f0, f1, f2, f3, f4, f5⟩ := box6f H1.out.2.1; obtain ⟨⟨y0, y1, y2, y3⟩, _⟩ := box4 H1.out.2.2.1)
  clear x0 x1 x2 x3 x4 x5 f0 f1 f2 f3 f4 f5 y0 y1 y2 y3
  have H3 := Lib.hid (HL.out _ H1.out.1 H1.out.2.1)
  generalize W1.alloc (.cells #[.int .u8 (xk : Int), .int .i64 a, .string S, .int .i32 xn] 47) = W2 at *
  generalize (((((W2.setCell ⟨w.heap.size, 0, none⟩ (.int .u8 2)).setCell ⟨w.heap.size, 1, none⟩ (.int .u8 0)).setCell ⟨w.heap.size, 2, none⟩ (.int .u8 0)).setCell ⟨w.heap.size, 3, none⟩ (.int .i32 xn)).setCell ⟨w.heap.size, 4, none⟩ (.string ⟨#[]⟩)).setCell ⟨w.heap.size, 5, none⟩ (.slice none 0 0) = X5 at *
  obtain ⟨y0, y1, y2, y3, y4, y5⟩ := box6 H3.out.1
  refine bodyPost_ret (v := .agg #[.int .u8 2, .int .u8 0, .int .u8 0, .int .i32 xn, .string ⟨#[]⟩, .slice none 0 0]) (by simp [results, Tryz.results70, go_sem, y0, y1, y2, y3, y4, y5]) rfl H3.out.2
set_option maxRecDepth 100000 in
set_option maxHeartbeats 1000000 in
theorem roper_name {w : World} {b m c p o : Nat} {A : Option Addr} {l : List Tk} (h : Rdr w b A m c l p o) (hp : p ≤ m) (h3 : (atB l p).k = 1) (h4 : (atB l (p + 1)).tx ≠ [91]) : Calls Tryz.prog 70 #[.pointer (some ⟨b, 0, none⟩)] w fun en w' => RdX w w' b A m c o (.ok (.mk 4 0 0 0 (atB l p).tx [], p + 1)) en := by
  obtain ⟨CT, HK⟩ := oper_st h hp
  have hb := h.box.lt
  have hn := (at_ok h.rr.ok p).1
  have hq : p + 1 ≤ m := by
    have := at_lt (l := l) (i := p) (fun e => by rw [e] at h3; exact absurd h3 (by decide))
    have := h.len
    omega
  have CX : Hid (∀ W : World, Rs w W b A m c (p + 1) o → Calls Tryz.prog 67 #[.pointer (some ⟨b, 0, none⟩), .string ⟨#[91]⟩] W fun en w' => en = .returned (.bool false) ∧ Rs W w' b A m c (p + 1) o) := Lib.hid fun W k => by
    have := rtakes_any (k.rdr h) hq [91] (T := ⟨#[91]⟩) rfl
    rw [decide_eq_false h4, if_neg h4] at this
    exact this
  clear h hp h4
  generalize atB l p = x at *
  obtain ⟨xk, xa, xt, xn⟩ := x
  dsimp only [NxT] at *
  have qk0 : ((xk : Int) == 3) = false := by rw [h3]; rfl
  have qk1 : ((xk : Int) == 4) = false := by rw [h3]; rfl
  have qk : ((xk : Int) == 1) = true := by rw [h3]; rfl
  clear h3
  have HL : Hid (∀ W : World, Rs w W b A m c (p + 1) o → BoxS W w.heap.size 27 zC → BoxS (set6 W w.heap.size (.int .u8 4) (.int .u8 0) (.int .u8 0) (.int .i32 0) (.string (strOf xt)) (.slice none 0 0)) w.heap.size 27 #[.int .u8 4, .int .u8 0, .int .u8 0, .int .i32 0, .string (strOf xt), .slice none 0 0] ∧ RdX w (set6 W w.heap.size (.int .u8 4) (.int .u8 0) (.int .u8 0) (.int .i32 0) (.string (strOf xt)) (.slice none 0 0)) b A m c o (.ok (.mk 4 0 0 0 xt [], p + 1)) (.returned (.agg #[.int .u8 4, .int .u8 0, .int .u8 0, .int .i32 0, .string (strOf xt), .slice none 0 0]))) :=
    Lib.hid (fun W k hx => finL (.mk 4 0 0 0 xt []) rfl ⟨by show 4 < 256; decide, by show 0 < 256; decide, by show 0 < 256; decide, by show (-2147483648 : Int) ≤ 0; decide, by show (0 : Int) ≤ 2147483647; decide, hn⟩ k hb hx hq)
  generalize strOf xt = S at *
  have HB := Lib.hid hb
  clear hn hq hb
  unfold zC set6 at *
  go_enter Tryz.func70, Tryz.ntmps70
  go_wp2_with (first
    | (go_at_call 95; (with_reducible refine (CT.out).mono ?_); rintro e1 W1 ⟨a, rfl, k⟩; have H1 := Lib.hid (HK.out W1 a k); clear k; obtain ⟨⟨y0, y1, y2, y3⟩, _⟩ := box4 H1.out.2.2.1)
    | (go_at_call 67; (with_reducible refine (CX.out _ H1.out.1).mono ?_); rintro e2 W3 ⟨rfl, k⟩; have H2 := Lib.hid (And.intro (H1.out.1.step k) (And.intro (k.kept H1.out.2.1 (by have := HB.out; omega)) (k.kept H1.out.2.2.1 (by have := HB.out; have := H1.out.2.2.2; omega)))); clear k y0 y1 y2 y3; obtain ⟨x0, x1, x2, x3, x4, x5⟩ := box6 H2.out.2.1; obtain ⟨f0, f1, f2, f3, f4, f5⟩ := box6f H2.out.2.1; obtain ⟨⟨y0, y1, y2, y3⟩, _⟩ := box4 H2.out.2.2))
  clear x0 x1 x2 x3 x4 x5 f0 f1 f2 f3 f4 f5 y0 y1 y2 y3
  have H3 := Lib.hid (HL.out _ H2.out.1 H2.out.2.1)
  generalize (((((W3.setCell ⟨w.heap.size, 0, none⟩ (.int .u8 4)).setCell ⟨w.heap.size, 1, none⟩ (.int .u8 0)).setCell ⟨w.heap.size, 2, none⟩ (.int .u8 0)).setCell ⟨w.heap.size, 3, none⟩ (.int .i32 0)).setCell ⟨w.heap.size, 4, none⟩ (.string S)).setCell ⟨w.heap.size, 5, none⟩ (.slice none 0 0) = X5 at *
  obtain ⟨y0, y1, y2, y3, y4, y5⟩ := box6 H3.out.1
  refine bodyPost_ret (v := .agg #[.int .u8 4, .int .u8 0, .int .u8 0, .int .i32 0, .string S, .slice none 0 0]) (by simp [results, Tryz.results70, go_sem, y0, y1, y2, y3, y4, y5]) rfl H3.out.2
set_option maxRecDepth 100000 in
set_option maxHeartbeats 1000000 in
theorem roper_word {w : World} {b m c p o : Nat} {A : Option Addr} {l : List Tk} {I : Bs → Nat → Res} (h : Rdr w b A m c l p o) (hp : p ≤ m) (HI : InOk b A m c l I o) (h3 : (atB l p).k ≠ 3) (h4 : (atB l p).k ≠ 4) (h1 : (atB l p).k ≠ 1) : Calls Tryz.prog 70 #[.pointer (some ⟨b, 0, none⟩)] w fun en w' => RdX w w' b A m c o (wordF (I [41]) (atB l p).tx (p + 1)) en := by
  obtain ⟨CT, HK⟩ := oper_st h hp
  have hb := h.box.lt
  have CW : Hid (∀ W : World, Rs w W b A m c (p + 1) o → Calls Tryz.prog 97 #[.pointer (some ⟨b, 0, none⟩), .string (strOf (atB l p).tx)] W fun en w' => RdX W w' b A m c o (wordF (I [41]) (atB l p).tx (p + 1)) en) := Lib.hid fun W k => by
    by_cases hq : p + 1 ≤ m
    · exact rword_any (k.rdr h) hq HI _
    · have e : atB l p = z0 := at_end (by have := h.len; omega)
      rw [e]
      exact rword_none (k.rdr h)
  clear HI
  generalize wordF (I [41]) (atB l p).tx (p + 1) = r at *
  clear h hp
  generalize atB l p = x at *
  obtain ⟨xk, xa, xt, xn⟩ := x
  dsimp only [NxT] at *
  have qk0 : ((xk : Int) == 3) = false := by simp only [beq_eq_false_iff_ne]; omega
  have qk1 : ((xk : Int) == 4) = false := by simp only [beq_eq_false_iff_ne]; omega
  have qk : ((xk : Int) == 1) = false := by simp only [beq_eq_false_iff_ne]; omega
  clear h3 h4 h1
  generalize strOf xt = S at *
  have HB := Lib.hid hb
  cases r with
  | error er =>
    clear hb
    unfold zC at *
    unfold RdX FailE at *
    dsimp only at *
    go_enter Tryz.func70, Tryz.ntmps70
    go_wp2_with (first
      | (go_at_call 95; (with_reducible refine (CT.out).mono ?_); rintro e1 W1 ⟨a, rfl, k⟩; have H1 := Lib.hid (HK.out W1 a k); clear k; obtain ⟨⟨y0, y1, y2, y3⟩, _⟩ := box4 H1.out.2.2.1)
      | (go_at_call 97; (with_reducible refine (CW.out _ H1.out.1).mono ?_); rintro e2 W3 ⟨rfl, k⟩; have H2 := Lib.hid (g_trans H1.out.1.grw k); clear k))
    exact ⟨rfl, rfl, H2.out⟩
  | ok v =>
    obtain ⟨y, q⟩ := v
    have HF := Lib.hid (fun (W2 W : World) (d : Nat) (B : Option Addr) (k0 : Rs w W2 b A m c (p + 1) o) (h0 : w.heap.size + 1 ≤ W2.heap.size) (hx : BoxS W2 w.heap.size 27 zC) (k : Rs W2 W b A m c q o) (t : TrN W (fun k => W2.heap.size ≤ k) B d y.l) => And.intro (k.kept hx (by omega)) (fin6 (n := y.l.length) (k0.step k) hb (k.kept hx (by omega)) (t.mono (fun j _ hj => Nat.le_trans h0 hj))))
    clear hb
    unfold zC set6 at *
    unfold RdX exV exC at *
    dsimp only at *
    generalize hS5 : strOf y.s = S5 at *
    have HS5 := Lib.hid hS5
    clear hS5
    go_enter Tryz.func70, Tryz.ntmps70
    go_wp2_with (first
      | (go_at_call 95; (with_reducible refine (CT.out).mono ?_); rintro e1 W1 ⟨a, rfl, k⟩; have H1 := Lib.hid (HK.out W1 a k); clear k; obtain ⟨⟨y0, y1, y2, y3⟩, _⟩ := box4 H1.out.2.2.1)
      | (go_at_call 97; (with_reducible refine (CW.out _ H1.out.1).mono ?_); rintro e2 W3 ⟨B, d, rfl, t, ok, k, hq⟩; have H2 := Lib.hid (HF.out _ W3 d B H1.out.1 (by rw [World.size_alloc]; have := H1.out.2.2.2; omega) H1.out.2.1 k t); have H4 := Lib.hid (And.intro ok hq); clear t ok k hq y0 y1 y2 y3; obtain ⟨x0, x1, x2, x3, x4, x5⟩ := box6 H2.out.1; obtain ⟨f0, f1, f2, f3, f4, f5⟩ := box6f H2.out.1))
    clear x0 x1 x2 x3 x4 x5 f0 f1 f2 f3 f4 f5
    have H3 := Lib.hid H2.out.2
    generalize (((((W3.setCell ⟨w.heap.size, 0, none⟩ (.int .u8 (y.k : Int))).setCell ⟨w.heap.size, 1, none⟩ (.int .u8 (y.o : Int))).setCell ⟨w.heap.size, 2, none⟩ (.int .u8 (y.t : Int))).setCell ⟨w.heap.size, 3, none⟩ (.int .i32 y.n)).setCell ⟨w.heap.size, 4, none⟩ (.string S5)).setCell ⟨w.heap.size, 5, none⟩ (.slice B y.l.length d) = X5 at *
    obtain ⟨y0, y1, y2, y3, y4, y5⟩ := box6 H3.out.1
    refine bodyPost_ret (v := .agg #[.int .u8 (y.k : Int), .int .u8 (y.o : Int), .int .u8 (y.t : Int), .int .i32 y.n, .string S5, .slice B y.l.length d]) (by simp [results, Tryz.results70, go_sem, y0, y1, y2, y3, y4, y5]) rfl ⟨B, d, rfl, H3.out.2.2, H4.out.1, H3.out.2.1, H4.out.2⟩
end Go.Proofs.YtplcmcealeeppaaGreatDoor
/- The program's reader of tokens: an element. -/
set_option linter.unusedVariables false
set_option linter.unusedSimpArgs false
namespace Go.Proofs.YtplcmcealeeppaaGreatDoor
open Go Go.RowKit L8 L10

theorem TrN.one {W : World} {N : Nat → Prop} {g d : Nat} {y : Ex} {B : Option Addr} (h : BoxS W g 27 (exC y B y.l.length d)) (ok : OKe y) (hN : N g) (t : TrN W N B d y.l) : TrN W N (some ⟨g, 0, none⟩) 1 [y] := by
  obtain ⟨y0, y1, y2, y3, y4, y5⟩ := box6 h
  refine .mk (fun _ => B) (fun _ => d) (Nat.le_refl _) (by simp [maxLen]) (fun j hj => ?_) (fun j hj => ?_) (fun j hj => ?_)
  all_goals (obtain rfl : j = 0 := by simpa using hj)
  · exact ok
  · exact ⟨_, rfl, hN, y0, y1, y2, y3, y4, y5⟩
  · exact t
set_option maxRecDepth 100000 in
set_option maxHeartbeats 2000000 in
theorem roper_elem {w : World} {b m c p o : Nat} {A : Option Addr} {l : List Tk} {I : Bs → Nat → Res} (h : Rdr w b A m c l p o) (hp : p ≤ m) (HI : InOk b A m c l I o) (h3 : (atB l p).k = 1) (h4 : (atB l (p + 1)).tx = [91]) : Calls Tryz.prog 70 #[.pointer (some ⟨b, 0, none⟩)] w fun en w' => RdX w w' b A m c o (wrapF (I [93] (p + 2)) fun y => .mk 5 0 0 0 (atB l p).tx [y]) en := by
  obtain ⟨CT, HK⟩ := oper_st h hp
  have hb := h.box.lt
  have hn := (at_ok h.rr.ok p).1
  have hq1 : p + 1 ≤ m := by
    have := at_lt (l := l) (i := p) (fun e => by rw [e] at h3; exact absurd h3 (by decide))
    have := h.len
    omega
  have hq2 : p + 2 ≤ m := by
    have := at_lt (l := l) (i := p + 1) (fun e => by rw [e] at h4; exact absurd h4 (by decide))
    have := h.len
    omega
  have CX : Hid (∀ W : World, Rs w W b A m c (p + 1) o → Calls Tryz.prog 67 #[.pointer (some ⟨b, 0, none⟩), .string ⟨#[91]⟩] W fun en w' => en = .returned (.bool true) ∧ Rs W w' b A m c (p + 2) o) := Lib.hid fun W k => by
    have := rtakes_any (k.rdr h) hq1 [91] (T := ⟨#[91]⟩) rfl
    rw [decide_eq_true h4, if_pos h4] at this
    exact this
  have CI : Hid (∀ W : World, Rs w W b A m c (p + 2) o → Calls Tryz.prog 96 #[.pointer (some ⟨b, 0, none⟩), .string ⟨#[93]⟩] W fun en w' => RdX W w' b A m c o (I [93] (p + 2)) en) := Lib.hid fun W k => HI [93] (by decide) ⟨#[93]⟩ rfl W (p + 2) (k.rdr h) hq2
  clear h hp h4 HI hq1 hq2
  generalize I [93] (p + 2) = r at *
  generalize atB l p = x at *
  obtain ⟨xk, xa, xt, xn⟩ := x
  dsimp only [NxT] at *
  have qk0 : ((xk : Int) == 3) = false := by rw [h3]; rfl
  have qk1 : ((xk : Int) == 4) = false := by rw [h3]; rfl
  have qk : ((xk : Int) == 1) = true := by rw [h3]; rfl
  clear h3
  generalize hS : strOf xt = S at *
  have HS := Lib.hid hS
  have HN := Lib.hid hn
  clear hS hn
  have HB := Lib.hid hb
  clear hb
  unfold zC at *
  go_enter Tryz.func70, Tryz.ntmps70
  go_wp2_with (first
    | (go_at_call 95; (with_reducible refine (CT.out).mono ?_); rintro e1 W1 ⟨a, rfl, k⟩; have H1 := Lib.hid (HK.out W1 a k); clear k; obtain ⟨⟨y0, y1, y2, y3⟩, _⟩ := box4 H1.out.2.2.1)
    | (go_at_call 67; (with_reducible refine (CX.out _ H1.out.1).mono ?_); rintro e2 W3 ⟨rfl, k⟩; have H2 := Lib.hid (And.intro (H1.out.1.step k) (And.intro (k.kept H1.out.2.1 (by have := HB.out; omega)) (k.kept H1.out.2.2.1 (by have := HB.out; have := H1.out.2.2.2; omega)))); clear k y0 y1 y2 y3))
  have HD := Lib.hid (And.intro (H2.out.1.below (show Below W3.heap.size W3 W3.drew from bdrew (b0 W3) 1)) (And.intro (H2.out.2.2.below (show Below W3.heap.size W3 W3.drew from bdrew (b0 W3) 1)) (H2.out.2.1.below (show Below W3.heap.size W3 W3.drew from bdrew (b0 W3) 1))))
  have hC1 := (box4 H2.out.2.2).1.2.2.1
  have hC2 := (box4 HD.out.2.1).1.2.2.1
  go_region_law (first | (go_simp; go_at_call 96; (with_reducible refine (CI.out _ HD.out.1).mono ?_); rintro e3 W4 k; rcases r with er | ⟨y, q⟩; (have k2 := k.1; subst k2; have H4 := Lib.hid (g_trans HD.out.1.grw k.2); clear k; (try go_simp); exact ⟨rfl, rfl, H4.out⟩); obtain ⟨B, d, k1, t, ok, k, hq⟩ := k; unfold exV at k1; subst k1; have H4 := Lib.hid (And.intro k (And.intro t (And.intro ok hq))); have hC3 := (box4 (HD.out.2.1.kept k.grw (fun e => by injection e with e; have := HB.out; have := H1.out.2.2.2; omega))).1.2.2.1; have H5 := Lib.hid ((HD.out.2.2.kept k.grw (fun e => by injection e with e; have := HB.out; omega)).below (bal (b0 W4) (.cells #[.int .u8 (y.k : Int), .int .u8 (y.o : Int), .int .u8 (y.t : Int), .int .i32 y.n, .string (strOf y.s), .slice B y.l.length d] 27))); have hC4 := (box4 ((HD.out.2.1.kept k.grw (fun e => by injection e with e; have := HB.out; have := H1.out.2.2.2; omega)).below (bal (b0 W4) (.cells #[.int .u8 (y.k : Int), .int .u8 (y.o : Int), .int .u8 (y.t : Int), .int .i32 y.n, .string (strOf y.s), .slice B y.l.length d] 27)))).1.2.2.1; obtain ⟨x0, x1, x2, x3, x4, x5⟩ := box6 H5.out; obtain ⟨f0, f1, f2, f3, f4, f5⟩ := box6f H5.out; clear k t ok hq))
  all_goals (
    go_wp2
    clear x0 x1 x2 x3 x4 x5 f0 f1 f2 f3 f4 f5 hC1 hC2 hC3 hC4
    have hb := HB.out
    have hs4 : w.heap.size + 1 ≤ W4.heap.size := by have := H4.out.1.grw.size; have := H2.out.1.grw.size; have := H1.out.2.2.2; have := H2.out.2.2.lt; show _ ≤ _; have e : W3.drew.heap.size = W3.heap.size := rfl; omega
    have h3w : w.heap.size + 1 ≤ W3.drew.heap.size := by have := H1.out.2.2.2; have := H2.out.2.2.lt; have e : W3.drew.heap.size = W3.heap.size := rfl; omega
    have bA := bal (b0 W4) (.cells #[.int .u8 (y.k : Int), .int .u8 (y.o : Int), .int .u8 (y.t : Int), .int .i32 y.n, .string (strOf y.s), .slice B y.l.length d] 27)
    have hk6 := (HD.out.1.step H4.out.1).below bA
    have ht6 := TrN.one (N := fun k => w.heap.size + 1 ≤ k) (boxS_new W4 27 (exC y B y.l.length d)) H4.out.2.2.1 hs4 ((H4.out.2.1.keep bA).mono (fun j _ hj => Nat.le_trans h3w hj))
    have H3 := Lib.hid (fin6 (y := .mk 5 0 0 0 xt [y]) (n := 1) hk6 hb H5.out ht6)
    have H6 : Hid (BoxS (set6 (W4.alloc (.cells #[.int .u8 (y.k : Int), .int .u8 (y.o : Int), .int .u8 (y.t : Int), .int .i32 y.n, .string (strOf y.s), .slice B y.l.length d] 27)) w.heap.size (.int .u8 5) (.int .u8 0) (.int .u8 0) (.int .i32 0) (.string S) (.slice (some ⟨W4.heap.size, 0, none⟩) 1 1)) w.heap.size 27 #[.int .u8 5, .int .u8 0, .int .u8 0, .int .i32 0, .string S, .slice (some ⟨W4.heap.size, 0, none⟩) 1 1] ∧ RdX w (set6 (W4.alloc (.cells #[.int .u8 (y.k : Int), .int .u8 (y.o : Int), .int .u8 (y.t : Int), .int .i32 y.n, .string (strOf y.s), .slice B y.l.length d] 27)) w.heap.size (.int .u8 5) (.int .u8 0) (.int .u8 0) (.int .i32 0) (.string S) (.slice (some ⟨W4.heap.size, 0, none⟩) 1 1)) b A m c o (.ok (.mk 5 0 0 0 xt [y], q)) (.returned (.agg #[.int .u8 5, .int .u8 0, .int .u8 0, .int .i32 0, .string S, .slice (some ⟨W4.heap.size, 0, none⟩) 1 1]))) := Lib.hid (by
      rw [← HS.out]
      exact ⟨H3.out.1, some ⟨W4.heap.size, 0, none⟩, 1, rfl, H3.out.2.2, ⟨by show 5 < 256; decide, by show 0 < 256; decide, by show 0 < 256; decide, by show (-2147483648 : Int) ≤ 0; decide, by show (0 : Int) ≤ 2147483647; decide, HN.out⟩, H3.out.2.1, H4.out.2.2.2⟩)
    clear H3 hk6 ht6 bA
    unfold set6 at H6
    generalize ((((((W4.alloc (.cells #[.int .u8 (y.k : Int), .int .u8 (y.o : Int), .int .u8 (y.t : Int), .int .i32 y.n, .string (strOf y.s), .slice B y.l.length d] 27)).setCell ⟨w.heap.size, 0, none⟩ (.int .u8 5)).setCell ⟨w.heap.size, 1, none⟩ (.int .u8 0)).setCell ⟨w.heap.size, 2, none⟩ (.int .u8 0)).setCell ⟨w.heap.size, 3, none⟩ (.int .i32 0)).setCell ⟨w.heap.size, 4, none⟩ (.string S)).setCell ⟨w.heap.size, 5, none⟩ (.slice (some ⟨W4.heap.size, 0, none⟩) 1 1) = X5 at *
    obtain ⟨y0, y1, y2, y3, y4, y5⟩ := box6 H6.out.1
    refine bodyPost_ret (v := .agg #[.int .u8 5, .int .u8 0, .int .u8 0, .int .i32 0, .string S, .slice (some ⟨W4.heap.size, 0, none⟩) 1 1]) (by simp [results, Tryz.results70, go_sem, y0, y1, y2, y3, y4, y5]) rfl H6.out.2)
end Go.Proofs.YtplcmcealeeppaaGreatDoor
/- The program's reader of tokens: operands. -/
set_option linter.unusedVariables false
set_option linter.unusedSimpArgs false
namespace Go.Proofs.YtplcmcealeeppaaGreatDoor
open Go Go.RowKit L8 L10

theorem roperand_any {w : World} {b m c p o : Nat} {A : Option Addr} {l : List Tk} {I : Bs → Nat → Res} (h : Rdr w b A m c l p o) (hp : p ≤ m) (HI : InOk b A m c l I o) : Calls Tryz.prog 70 #[.pointer (some ⟨b, 0, none⟩)] w fun en w' => RdX w w' b A m c o (operF I l p) en := by
  unfold operF
  by_cases h3 : (atB l p).k = 3
  · rw [if_pos h3]; exact roper_num h hp h3
  rw [if_neg h3]
  by_cases h4 : (atB l p).k = 4
  · rw [if_pos h4]; exact roper_byte h hp h4
  rw [if_neg h4]
  by_cases h1 : (atB l p).k = 1
  · rw [if_pos h1]
    by_cases hb : (atB l (p + 1)).tx = [91]
    · rw [if_pos hb]; exact roper_elem h hp HI h1 hb
    · rw [if_neg hb]; exact roper_name h hp h1 hb
  · rw [if_neg h1]; exact roper_word h hp HI h3 h4 h1
/-- readOperand, d brackets still to be opened, if readExpr is known with one fewer. -/
theorem roperand_ok {b m c o d : Nat} {A : Option Addr} {l : List Tk} (hd : d + o = 32) (ih : ∀ e, d = e + 1 → RdOk b A m c l 43 (rdN l e) (o + 1)) : RdOk b A m c l 70 (tkN l d) o := fun W p h hp => by
  cases d with
  | zero =>
    have := roperand_any h hp (inside_ok (R := fun _ => .error 3) (by omega) (fun hlt => absurd hlt (by omega)))
    rw [oper_tk (top := true) (by rw [decide_eq_true (show o = 32 by omega)])] at this
    exact this
  | succ e =>
    have := roperand_any h hp (inside_ok (R := rdN l e) (by omega) (fun _ => ih e rfl))
    rw [oper_tk (top := false) (by rw [decide_eq_false (show ¬ o = 32 by omega)])] at this
    exact this
end Go.Proofs.YtplcmcealeeppaaGreatDoor
