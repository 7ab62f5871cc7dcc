/- The reference: which trees fit a kind. -/
import Derived.Test.YtblckajejohlbaaDoorM06
import Derived.Test.YtblckajejohlbaaDoorM09
set_option linter.unusedVariables false
set_option linter.unusedSimpArgs false
set_option linter.unusedVariables false
set_option linter.unusedSimpArgs false
namespace Go.Proofs.YtblckajejohlbaaDoor
open Go Go.RowKit L8 L22 L17
open L14 (inW)

/-- A tree's box, and variables. -/
structure FtS (w X : World) (e : Kx) (A : Option Addr) (n c : Nat) (vs : List Vr) (B : Option Addr) (bc : Nat) : Prop where
  ks : KS w X e A n c
  v : VaR X B bc vs
theorem FtS.new {w : World} {e : Kx} {A : Option Addr} {n c : Nat} {vs : List Vr} {B : Option Addr} {bc : Nat} (R : KrR w A c e.l) (T : VaR w B bc vs) : FtS w (w.alloc (.cells (kxC e A n c) 45)) e A n c vs B bc := ⟨KS.new R, T.keep (bal (b0 w) _)⟩
theorem FtS.step {w X Y : World} {e : Kx} {A : Option Addr} {n c : Nat} {vs : List Vr} {B : Option Addr} {bc : Nat} (h : FtS w X e A n c vs B bc) (b : Below X.heap.size X Y) : FtS w Y e A n c vs B bc := ⟨h.ks.step b, h.v.keep b⟩
theorem FtS.bel {w X : World} {e : Kx} {A : Option Addr} {n c : Nat} {vs : List Vr} {B : Option Addr} {bc : Nat} (h : FtS w X e A n c vs B bc) : Below w.heap.size w X := h.ks.bel
/-- What a tree's fits answers, whatever the world. -/
def FitC (vs : List Vr) (B : Option Addr) (bn bc : Nat) (y : Kx) : Prop := ∀ (A : Option Addr) (n c k : Nat) (w : World), k < 256 → KrR w A c y.l → y.l.length = n → OKk y → VaR w B bc vs → Calls Tryd.prog 56 #[.slice B bn bc, kxV y A n c, .int .u8 (k : Int)] w fun en w' => en = .returned (.bool (ftX vs y k)) ∧ Below w.heap.size w w'
theorem FitC.at {vs : List Vr} {B : Option Addr} {bn bc : Nat} {y : Kx} (h : FitC vs B bn bc y) {w X : World} {e : Kx} {A : Option Addr} {n c : Nat} {A' : Option Addr} {m d : Nat} (Ra : KrR w A' d y.l) (hm : y.l.length = m) (ok : OKk y) (k : Nat) (hk : k < 256) (H : FtS w X e A n c vs B bc) : Calls Tryd.prog 56 #[.slice B bn bc, kxV y A' m d, .int .u8 (k : Int)] X fun en w' => en = .returned (.bool (ftX vs y k)) ∧ Below X.heap.size X w' :=
  h A' m d k X hk (Ra.keep H.bel) hm ok H.v
set_option maxRecDepth 100000 in
set_option maxHeartbeats 8000000 in
theorem both_of (vs : List Vr) (B : Option Addr) (bn bc : Nat) (hbn : vs.length = bn) (e a b : Kx) (h : e.l = [a, b]) (F0 : FitC vs B bn bc a) (F1 : FitC vs B bn bc b) (A : Option Addr) (n c k : Nat) (w : World) (hk : k < 256) (R : KrR w A c e.l) (hn : e.l.length = n) (V : VaR w B bc vs) : Calls Tryd.prog 79 #[.slice B bn bc, kxV e A n c, .int .u8 (k : Int)] w fun en w' => en = .returned (.bool (ftX vs a k && ftX vs b k)) ∧ Below w.heap.size w w' := by
  have hsz : (n : Int) ≤ 9223372036854775807 := by have := R.le; have := R.mx; unfold maxLen at this; omega
  obtain ⟨ad, rfl⟩ := R.some_of h
  have hn0 : (0 : Int) < (n : Int) := by rw [h] at hn; simp at hn; omega
  have hn1 : (1 : Int) < (n : Int) := by rw [h] at hn; simp at hn; omega
  obtain ⟨A0, m0, d0, hm0, ok0, R0, x0, x1, x2, x3, x4, x5⟩ := R.fst h
  obtain ⟨A1, m1, d1, hm1, ok1, R1, y0, y1, y2, y3, y4, y5⟩ := R.sec h
  have HV := Lib.hid (FtS.new (n := n) R V)
  have HP := Lib.hid fun X (H : Hid (FtS w X e (some ad) n c vs B bc)) => H.out.ks.box
  have HX : Hid (∀ X, Hid (FtS w X e (some ad) n c vs B bc) → X.cell? ad = some (.int .u8 (a.k : Int)) ∧ X.cell? ⟨ad.block, ad.off + 1, none⟩ = some (.int .u8 (a.o : Int)) ∧ X.cell? ⟨ad.block, ad.off + 2, none⟩ = some (.int .u8 (a.t : Int)) ∧ X.cell? ⟨ad.block, ad.off + 3, none⟩ = some (.int .i32 a.n) ∧ X.cell? ⟨ad.block, ad.off + 4, none⟩ = some (.int .i64 a.v) ∧ X.cell? ⟨ad.block, ad.off + 5, none⟩ = some (.slice A0 m0 d0)) := Lib.hid fun X H => ⟨(H.out.bel.cell (g_lt x0)).trans x0, (H.out.bel.cell (g_lt x1)).trans x1, (H.out.bel.cell (g_lt x2)).trans x2, (H.out.bel.cell (g_lt x3)).trans x3, (H.out.bel.cell (g_lt x4)).trans x4, (H.out.bel.cell (g_lt x5)).trans x5⟩
  have HY : Hid (∀ X, Hid (FtS w X e (some ad) n c vs B bc) → X.cell? ⟨ad.block, ad.off + 6, none⟩ = some (.int .u8 (b.k : Int)) ∧ X.cell? ⟨ad.block, ad.off + 6 + 1, none⟩ = some (.int .u8 (b.o : Int)) ∧ X.cell? ⟨ad.block, ad.off + 6 + 2, none⟩ = some (.int .u8 (b.t : Int)) ∧ X.cell? ⟨ad.block, ad.off + 6 + 3, none⟩ = some (.int .i32 b.n) ∧ X.cell? ⟨ad.block, ad.off + 6 + 4, none⟩ = some (.int .i64 b.v) ∧ X.cell? ⟨ad.block, ad.off + 6 + 5, none⟩ = some (.slice A1 m1 d1)) := Lib.hid fun X H => ⟨(H.out.bel.cell (g_lt y0)).trans y0, (H.out.bel.cell (g_lt y1)).trans y1, (H.out.bel.cell (g_lt y2)).trans y2, (H.out.bel.cell (g_lt y3)).trans y3, (H.out.bel.cell (g_lt y4)).trans y4, (H.out.bel.cell (g_lt y5)).trans y5⟩
  have C0 := Lib.hid fun X (H : Hid (FtS w X e (some ad) n c vs B bc)) => F0.at R0 hm0 ok0 k hk H.out
  have C1 := Lib.hid fun X (H : Hid (FtS w X e (some ad) n c vs B bc)) => F1.at R1 hm1 ok1 k hk H.out
  generalize ftX vs a k = p at *
  generalize ftX vs b k = q at *
  clear x0 x1 x2 x3 x4 x5 y0 y1 y2 y3 y4 y5
  obtain ⟨p0, p1, p2, p3, p4, p5⟩ := HP.out _ HV
  obtain ⟨x0, x1, x2, x3, x4, x5⟩ := HX.out _ HV
  obtain ⟨y0, y1, y2, y3, y4, y5⟩ := HY.out _ HV
  clear R V R0 R1 F0 F1 hm0 hm1 ok0 ok1 h hn hbn
  dsimp only [kxV, kxC] at *
  go_enter Tryd.func79, Tryd.ntmps79
  cases p
  · go_wp2_with (go_at_call 56; (with_reducible refine (C0.out _ HV).mono ?_); rintro en w2 ⟨rfl, b⟩; have H2 := Lib.hid (HV.out.step b); clear b; clear p0 p1 p2 p3 p4 p5; obtain ⟨p0, p1, p2, p3, p4, p5⟩ := HP.out _ H2; clear x0 x1 x2 x3 x4 x5; obtain ⟨x0, x1, x2, x3, x4, x5⟩ := HX.out _ H2; clear y0 y1 y2 y3 y4 y5; obtain ⟨y0, y1, y2, y3, y4, y5⟩ := HY.out _ H2)
    go_ret
    exact ⟨rfl, H2.out.bel⟩
  · go_wp2_with (first
      | (go_at_call 56; (with_reducible refine (C0.out _ HV).mono ?_); rintro en w2 ⟨rfl, b⟩; have H2 := Lib.hid (HV.out.step b); clear b; clear p0 p1 p2 p3 p4 p5; obtain ⟨p0, p1, p2, p3, p4, p5⟩ := HP.out _ H2; clear x0 x1 x2 x3 x4 x5; obtain ⟨x0, x1, x2, x3, x4, x5⟩ := HX.out _ H2; clear y0 y1 y2 y3 y4 y5; obtain ⟨y0, y1, y2, y3, y4, y5⟩ := HY.out _ H2)
      | (go_at_call 56; (with_reducible refine (C1.out _ H2).mono ?_); rintro en w3 ⟨rfl, b⟩; have H3 := Lib.hid (H2.out.step b); clear b; clear p0 p1 p2 p3 p4 p5; obtain ⟨p0, p1, p2, p3, p4, p5⟩ := HP.out _ H3; clear x0 x1 x2 x3 x4 x5; obtain ⟨x0, x1, x2, x3, x4, x5⟩ := HX.out _ H3; clear y0 y1 y2 y3 y4 y5; obtain ⟨y0, y1, y2, y3, y4, y5⟩ := HY.out _ H3))
    go_ret
    exact ⟨by simp, H3.out.bel⟩
set_option maxRecDepth 100000 in
set_option maxHeartbeats 8000000 in
theorem ft_1 (vs : List Vr) (B : Option Addr) (bn bc : Nat) (hbn : vs.length = bn) (e : Kx) (hkk : e.k = 1) (A : Option Addr) (n c k : Nat) (w : World) (hk : k < 256) (R : KrR w A c e.l) (hn : e.l.length = n) (V : VaR w B bc vs) : Calls Tryd.prog 56 #[.slice B bn bc, kxV e A n c, .int .u8 (k : Int)] w fun en w' => en = .returned (.bool (((k : Int) == 1) || (((k : Int) == 2) && (decide ((0 : Int) ≤ e.n) && decide (e.n ≤ (255 : Int))) || ((k : Int) == 3) && ((e.n == 0) || (e.n == 1))))) ∧ Below w.heap.size w w' := by
  have h3 : (((k : Int) == 1) = true ∧ ((k : Int) == 2) = false ∧ ((k : Int) == 3) = false) ∨ (((k : Int) == 1) = false ∧ ((k : Int) == 2) = true ∧ ((k : Int) == 3) = false) ∨ (((k : Int) == 1) = false ∧ ((k : Int) == 2) = false ∧ ((k : Int) == 3) = true) ∨ (((k : Int) == 1) = false ∧ ((k : Int) == 2) = false ∧ ((k : Int) == 3) = false) := by
    simp only [beq_iff_eq, beq_eq_false_iff_ne]; omega
  have q1 : ((e.k : Int) == 1) = true := by rw [hkk]; rfl
  have HV := Lib.hid (FtS.new (n := n) R V)
  have HB := Lib.hid HV.out.bel
  obtain ⟨p0, p1, p2, p3, p4, p5⟩ := HV.out.ks.box
  clear R V HV hbn hn hkk
  obtain ⟨g0, hg0⟩ : ∃ g, decide ((0 : Int) ≤ e.n) = g := ⟨_, rfl⟩
  obtain ⟨g1, hg1⟩ : ∃ g, decide (e.n ≤ (255 : Int)) = g := ⟨_, rfl⟩
  obtain ⟨z0, hz0⟩ : ∃ g, (e.n == 0) = g := ⟨_, rfl⟩
  obtain ⟨z1, hz1⟩ : ∃ g, (e.n == 1) = g := ⟨_, rfl⟩
  rw [hg0, hg1, hz0, hz1]
  dsimp only [kxV, kxC] at *
  rcases h3 with ⟨e1, e2, e3⟩ | ⟨e1, e2, e3⟩ | ⟨e1, e2, e3⟩ | ⟨e1, e2, e3⟩
  · clear hg0 hg1 hz0 hz1
    rw [e1, e2, e3]
    go_enter Tryd.func56, Tryd.ntmps56
    go_wp2
    go_ret
    exact ⟨rfl, HB.out⟩
  · clear hz0 hz1
    rw [e1, e2, e3]
    cases g0 <;> cases g1 <;> (go_enter Tryd.func56, Tryd.ntmps56; go_wp2; go_ret; exact ⟨rfl, HB.out⟩)
  · clear hg0 hg1
    rw [e1, e2, e3]
    cases z0 <;> cases z1 <;> (go_enter Tryd.func56, Tryd.ntmps56; go_wp2; go_ret; exact ⟨rfl, HB.out⟩)
  · clear hg0 hg1 hz0 hz1
    rw [e1, e2, e3]
    go_enter Tryd.func56, Tryd.ntmps56
    go_wp2
    go_ret
    exact ⟨rfl, HB.out⟩
set_option maxRecDepth 100000 in
set_option maxHeartbeats 8000000 in
theorem ft_2 (vs : List Vr) (B : Option Addr) (bn bc : Nat) (hbn : vs.length = bn) (e : Kx) (hkk : e.k = 2) (hv : 0 ≤ e.v) (A : Option Addr) (n c k : Nat) (w : World) (hk : k < 256) (R : KrR w A c e.l) (hn : e.l.length = n) (V : VaR w B bc vs) : Calls Tryd.prog 56 #[.slice B bn bc, kxV e A n c, .int .u8 (k : Int)] w fun en w' => en = .returned (.bool (decide (e.v < (bn : Int)) && ((vs.getD e.v.toNat v0).2 == 0) && (((vs.getD e.v.toNat v0).1 : Int) == (k : Int)))) ∧ Below w.heap.size w w' := by
  have q1 : ((e.k : Int) == 1) = false := by simp; omega
  have q2 : ((e.k : Int) == 2) = true := by rw [hkk]; rfl
  have hsb : (bn : Int) ≤ 9223372036854775807 := V.sz hbn
  have hb0 : (0 : Int) ≤ (bn : Int) := by omega
  obtain ⟨j, hj⟩ : ∃ j : Nat, e.v = (j : Int) := ⟨e.v.toNat, by omega⟩
  have hj0 : (0 : Int) ≤ (j : Int) := by omega
  have HV := Lib.hid (FtS.new (n := n) R V)
  have HB := Lib.hid HV.out.bel
  obtain ⟨p0, p1, p2, p3, p4, p5⟩ := HV.out.ks.box
  dsimp only [kxV, kxC] at *
  generalize e.v = ev at *
  subst hj
  rw [Int.toNat_natCast]
  by_cases hl : (j : Int) < (bn : Int)
  · have hl' : decide ((j : Int) < (bn : Int)) = true := decide_eq_true hl
    obtain ⟨ba, rfl, z0, z1⟩ := HV.out.v.rd j (by omega)
    rw [hl']
    generalize vs.getD j v0 = y at *
    obtain ⟨g0, hg0⟩ : ∃ g, (y.2 == 0) = g := ⟨_, rfl⟩
    obtain ⟨g1, hg1⟩ : ∃ g, ((y.1 : Int) == (k : Int)) = g := ⟨_, rfl⟩
    rw [hg0, hg1]
    clear R V HV hbn hn hkk hv hl'
    cases g0 <;> cases g1 <;> (go_enter Tryd.func56, Tryd.ntmps56; go_wp2; go_ret; exact ⟨rfl, HB.out⟩)
  · have hl' : decide ((j : Int) < (bn : Int)) = false := decide_eq_false hl
    rw [hl']
    clear R V HV hbn hn hkk hv
    go_enter Tryd.func56, Tryd.ntmps56
    go_wp2
    go_ret
    exact ⟨rfl, HB.out⟩
set_option maxRecDepth 100000 in
set_option maxHeartbeats 8000000 in
theorem ft_3 (vs : List Vr) (B : Option Addr) (bn bc : Nat) (hbn : vs.length = bn) (e a : Kx) (r : List Kx) (h : e.l = a :: r) (F0 : FitC vs B bn bc a) (hkk : e.k = 3) (hv : 0 ≤ e.v) (A : Option Addr) (n c k : Nat) (w : World) (hk : k < 256) (R : KrR w A c e.l) (hn : e.l.length = n) (V : VaR w B bc vs) : Calls Tryd.prog 56 #[.slice B bn bc, kxV e A n c, .int .u8 (k : Int)] w fun en w' => en = .returned (.bool (decide (e.v < (bn : Int)) && decide ((0 : Int) < (vs.getD e.v.toNat v0).2) && (((vs.getD e.v.toNat v0).1 : Int) == (k : Int)) && ftX vs a 1)) ∧ Below w.heap.size w w' := by
  have q1 : ((e.k : Int) == 1) = false := by simp; omega
  have q2 : ((e.k : Int) == 2) = false := by simp; omega
  have q3 : ((e.k : Int) == 3) = true := by rw [hkk]; rfl
  have hsb : (bn : Int) ≤ 9223372036854775807 := V.sz hbn
  have hb0 : (0 : Int) ≤ (bn : Int) := by omega
  obtain ⟨j, hj⟩ : ∃ j : Nat, e.v = (j : Int) := ⟨e.v.toNat, by omega⟩
  have hj0 : (0 : Int) ≤ (j : Int) := by omega
  have hsz : (n : Int) ≤ 9223372036854775807 := by have := R.le; have := R.mx; unfold maxLen at this; omega
  obtain ⟨ad, rfl⟩ := R.some_of h
  have hn0 : (0 : Int) < (n : Int) := by rw [h] at hn; simp at hn; omega
  obtain ⟨A0, m0, d0, hm0, ok0, R0, x0, x1, x2, x3, x4, x5⟩ := R.fst h
  have HV := Lib.hid (FtS.new (n := n) R V)
  have HP := Lib.hid fun X (H : Hid (FtS w X e (some ad) n c vs B bc)) => H.out.ks.box
  have HX : Hid (∀ X, Hid (FtS w X e (some ad) n c vs B bc) → X.cell? ad = some (.int .u8 (a.k : Int)) ∧ X.cell? ⟨ad.block, ad.off + 1, none⟩ = some (.int .u8 (a.o : Int)) ∧ X.cell? ⟨ad.block, ad.off + 2, none⟩ = some (.int .u8 (a.t : Int)) ∧ X.cell? ⟨ad.block, ad.off + 3, none⟩ = some (.int .i32 a.n) ∧ X.cell? ⟨ad.block, ad.off + 4, none⟩ = some (.int .i64 a.v) ∧ X.cell? ⟨ad.block, ad.off + 5, none⟩ = some (.slice A0 m0 d0)) := Lib.hid fun X H => ⟨(H.out.bel.cell (g_lt x0)).trans x0, (H.out.bel.cell (g_lt x1)).trans x1, (H.out.bel.cell (g_lt x2)).trans x2, (H.out.bel.cell (g_lt x3)).trans x3, (H.out.bel.cell (g_lt x4)).trans x4, (H.out.bel.cell (g_lt x5)).trans x5⟩
  have C1 : Hid (∀ X, Hid (FtS w X e (some ad) n c vs B bc) → Calls Tryd.prog 56 #[.slice B bn bc, kxV a A0 m0 d0, .int .u8 1] X fun en w' => en = .returned (.bool (ftX vs a 1)) ∧ Below X.heap.size X w') := Lib.hid fun X H => by
    have := F0.at R0 hm0 ok0 1 (by omega) H.out
    exact this
  generalize ftX vs a 1 = f1 at *
  clear x0 x1 x2 x3 x4 x5
  obtain ⟨p0, p1, p2, p3, p4, p5⟩ := HP.out _ HV
  obtain ⟨x0, x1, x2, x3, x4, x5⟩ := HX.out _ HV
  dsimp only [kxV, kxC] at *
  generalize e.v = ev at *
  subst hj
  rw [Int.toNat_natCast]
  by_cases hl : (j : Int) < (bn : Int)
  · have hl' : decide ((j : Int) < (bn : Int)) = true := decide_eq_true hl
    obtain ⟨ba, rfl, z0, z1⟩ := HV.out.v.rd j (by omega)
    rw [hl']
    generalize vs.getD j v0 = y at *
    obtain ⟨g0, hg0⟩ : ∃ g, decide ((0 : Int) < y.2) = g := ⟨_, rfl⟩
    obtain ⟨g1, hg1⟩ : ∃ g, ((y.1 : Int) == (k : Int)) = g := ⟨_, rfl⟩
    rw [hg0, hg1]
    clear R V hbn hn hkk hv hl' R0 F0 hm0 ok0 h HX
    cases g0
    · go_enter Tryd.func56, Tryd.ntmps56
      clear C1
      go_wp2
      go_ret
      exact ⟨by simp, HV.out.bel⟩
    cases g1
    · go_enter Tryd.func56, Tryd.ntmps56
      clear C1
      go_wp2
      go_ret
      exact ⟨by simp, HV.out.bel⟩
    · go_enter Tryd.func56, Tryd.ntmps56
      go_wp2_with (go_at_call 56; (with_reducible refine (C1.out _ HV).mono ?_); rintro en w2 ⟨rfl, b⟩; have H2 := Lib.hid (HV.out.step b); clear b)
      go_ret
      exact ⟨by simp, H2.out.bel⟩
  · have hl' : decide ((j : Int) < (bn : Int)) = false := decide_eq_false hl
    rw [hl']
    clear R V hbn hn hkk hv R0 F0 hm0 ok0 h HX
    go_enter Tryd.func56, Tryd.ntmps56
    go_wp2
    go_ret
    exact ⟨by simp, HV.out.bel⟩
set_option maxRecDepth 100000 in
set_option maxHeartbeats 8000000 in
theorem ft_6 (vs : List Vr) (B : Option Addr) (bn bc : Nat) (hbn : vs.length = bn) (e a : Kx) (r : List Kx) (h : e.l = a :: r) (F0 : FitC vs B bn bc a) (hkk : e.k = 6) (A : Option Addr) (n c k : Nat) (w : World) (hk : k < 256) (R : KrR w A c e.l) (hn : e.l.length = n) (V : VaR w B bc vs) : Calls Tryd.prog 56 #[.slice B bn bc, kxV e A n c, .int .u8 (k : Int)] w fun en w' => en = .returned (.bool (((e.t : Int) == (k : Int)) && (ftX vs a 1 || ftX vs a 2 || ftX vs a 3))) ∧ Below w.heap.size w w' := by
  have q1 : ((e.k : Int) == 1) = false := by simp; omega
  have q2 : ((e.k : Int) == 2) = false := by simp; omega
  have q3 : ((e.k : Int) == 3) = false := by simp; omega
  have q6 : ((e.k : Int) == 6) = true := by rw [hkk]; rfl
  have hsz : (n : Int) ≤ 9223372036854775807 := by have := R.le; have := R.mx; unfold maxLen at this; omega
  obtain ⟨ad, rfl⟩ := R.some_of h
  have hn0 : (0 : Int) < (n : Int) := by rw [h] at hn; simp at hn; omega
  obtain ⟨A0, m0, d0, hm0, ok0, R0, x0, x1, x2, x3, x4, x5⟩ := R.fst h
  have HV := Lib.hid (FtS.new (n := n) R V)
  have HP := Lib.hid fun X (H : Hid (FtS w X e (some ad) n c vs B bc)) => H.out.ks.box
  have HX : Hid (∀ X, Hid (FtS w X e (some ad) n c vs B bc) → X.cell? ad = some (.int .u8 (a.k : Int)) ∧ X.cell? ⟨ad.block, ad.off + 1, none⟩ = some (.int .u8 (a.o : Int)) ∧ X.cell? ⟨ad.block, ad.off + 2, none⟩ = some (.int .u8 (a.t : Int)) ∧ X.cell? ⟨ad.block, ad.off + 3, none⟩ = some (.int .i32 a.n) ∧ X.cell? ⟨ad.block, ad.off + 4, none⟩ = some (.int .i64 a.v) ∧ X.cell? ⟨ad.block, ad.off + 5, none⟩ = some (.slice A0 m0 d0)) := Lib.hid fun X H => ⟨(H.out.bel.cell (g_lt x0)).trans x0, (H.out.bel.cell (g_lt x1)).trans x1, (H.out.bel.cell (g_lt x2)).trans x2, (H.out.bel.cell (g_lt x3)).trans x3, (H.out.bel.cell (g_lt x4)).trans x4, (H.out.bel.cell (g_lt x5)).trans x5⟩
  have C1 : Hid (∀ X, Hid (FtS w X e (some ad) n c vs B bc) → Calls Tryd.prog 56 #[.slice B bn bc, kxV a A0 m0 d0, .int .u8 1] X fun en w' => en = .returned (.bool (ftX vs a 1)) ∧ Below X.heap.size X w') := Lib.hid fun X H => by
    have := F0.at R0 hm0 ok0 1 (by omega) H.out
    exact this
  have C2 : Hid (∀ X, Hid (FtS w X e (some ad) n c vs B bc) → Calls Tryd.prog 56 #[.slice B bn bc, kxV a A0 m0 d0, .int .u8 2] X fun en w' => en = .returned (.bool (ftX vs a 2)) ∧ Below X.heap.size X w') := Lib.hid fun X H => by
    have := F0.at R0 hm0 ok0 2 (by omega) H.out
    exact this
  have C3 : Hid (∀ X, Hid (FtS w X e (some ad) n c vs B bc) → Calls Tryd.prog 56 #[.slice B bn bc, kxV a A0 m0 d0, .int .u8 3] X fun en w' => en = .returned (.bool (ftX vs a 3)) ∧ Below X.heap.size X w') := Lib.hid fun X H => by
    have := F0.at R0 hm0 ok0 3 (by omega) H.out
    exact this
  generalize ftX vs a 1 = f1 at *
  generalize ftX vs a 2 = f2 at *
  generalize ftX vs a 3 = f3 at *
  clear x0 x1 x2 x3 x4 x5
  obtain ⟨p0, p1, p2, p3, p4, p5⟩ := HP.out _ HV
  obtain ⟨x0, x1, x2, x3, x4, x5⟩ := HX.out _ HV
  clear R V hbn hn hkk R0 F0 hm0 ok0 h
  dsimp only [kxV, kxC] at *
  obtain ⟨g0, hg0⟩ : ∃ g, ((e.t : Int) == (k : Int)) = g := ⟨_, rfl⟩
  rw [hg0]
  cases g0
  · go_enter Tryd.func56, Tryd.ntmps56
    go_wp2
    go_ret
    exact ⟨by simp, HV.out.bel⟩
  cases f1
  · cases f2
    · go_enter Tryd.func56, Tryd.ntmps56
      go_wp2_with (first
        | (go_at_call 56; (with_reducible refine (C1.out _ HV).mono ?_); rintro en w2 ⟨rfl, b⟩; have H2 := Lib.hid (HV.out.step b); clear b; clear p0 p1 p2 p3 p4 p5; obtain ⟨p0, p1, p2, p3, p4, p5⟩ := HP.out _ H2; clear x0 x1 x2 x3 x4 x5; obtain ⟨x0, x1, x2, x3, x4, x5⟩ := HX.out _ H2)
        | (go_at_call 56; (with_reducible refine (C2.out _ H2).mono ?_); rintro en w3 ⟨rfl, b⟩; have H3 := Lib.hid (H2.out.step b); clear b; clear p0 p1 p2 p3 p4 p5; obtain ⟨p0, p1, p2, p3, p4, p5⟩ := HP.out _ H3; clear x0 x1 x2 x3 x4 x5; obtain ⟨x0, x1, x2, x3, x4, x5⟩ := HX.out _ H3)
        | (go_at_call 56; (with_reducible refine (C3.out _ H3).mono ?_); rintro en w4 ⟨rfl, b⟩; have H4 := Lib.hid (H3.out.step b); clear b; clear p0 p1 p2 p3 p4 p5; obtain ⟨p0, p1, p2, p3, p4, p5⟩ := HP.out _ H4; clear x0 x1 x2 x3 x4 x5; obtain ⟨x0, x1, x2, x3, x4, x5⟩ := HX.out _ H4))
      go_ret
      exact ⟨by simp, H4.out.bel⟩
    · go_enter Tryd.func56, Tryd.ntmps56
      go_wp2_with (first
        | (go_at_call 56; (with_reducible refine (C1.out _ HV).mono ?_); rintro en w2 ⟨rfl, b⟩; have H2 := Lib.hid (HV.out.step b); clear b; clear p0 p1 p2 p3 p4 p5; obtain ⟨p0, p1, p2, p3, p4, p5⟩ := HP.out _ H2; clear x0 x1 x2 x3 x4 x5; obtain ⟨x0, x1, x2, x3, x4, x5⟩ := HX.out _ H2)
        | (go_at_call 56; (with_reducible refine (C2.out _ H2).mono ?_); rintro en w3 ⟨rfl, b⟩; have H3 := Lib.hid (H2.out.step b); clear b; clear p0 p1 p2 p3 p4 p5; obtain ⟨p0, p1, p2, p3, p4, p5⟩ := HP.out _ H3; clear x0 x1 x2 x3 x4 x5; obtain ⟨x0, x1, x2, x3, x4, x5⟩ := HX.out _ H3))
      go_ret
      exact ⟨by simp, H3.out.bel⟩
  · go_enter Tryd.func56, Tryd.ntmps56
    go_wp2_with (go_at_call 56; (with_reducible refine (C1.out _ HV).mono ?_); rintro en w2 ⟨rfl, b⟩; have H2 := Lib.hid (HV.out.step b); clear b; clear p0 p1 p2 p3 p4 p5; obtain ⟨p0, p1, p2, p3, p4, p5⟩ := HP.out _ H2; clear x0 x1 x2 x3 x4 x5; obtain ⟨x0, x1, x2, x3, x4, x5⟩ := HX.out _ H2)
    go_ret
    exact ⟨by simp, H2.out.bel⟩
set_option maxRecDepth 100000 in
set_option maxHeartbeats 8000000 in
theorem ft_4n (vs : List Vr) (B : Option Addr) (bn bc : Nat) (hbn : vs.length = bn) (e a : Kx) (r : List Kx) (h : e.l = a :: r) (F0 : FitC vs B bn bc a) (hkk : e.k = 4) (ho : e.o = 26) (A : Option Addr) (n c k : Nat) (w : World) (hk : k < 256) (R : KrR w A c e.l) (hn : e.l.length = n) (V : VaR w B bc vs) : Calls Tryd.prog 56 #[.slice B bn bc, kxV e A n c, .int .u8 (k : Int)] w fun en w' => en = .returned (.bool (((k : Int) == 3) && ftX vs a 3)) ∧ Below w.heap.size w w' := by
  have q1 : ((e.k : Int) == 1) = false := by simp; omega
  have q2 : ((e.k : Int) == 2) = false := by simp; omega
  have q3 : ((e.k : Int) == 3) = false := by simp; omega
  have q6 : ((e.k : Int) == 6) = false := by simp; omega
  have q4 : ((e.k : Int) == 4) = true := by rw [hkk]; rfl
  have o26 : ((e.o : Int) == 26) = true := by rw [ho]; rfl
  clear ho
  have hsz : (n : Int) ≤ 9223372036854775807 := by have := R.le; have := R.mx; unfold maxLen at this; omega
  obtain ⟨ad, rfl⟩ := R.some_of h
  have hn0 : (0 : Int) < (n : Int) := by rw [h] at hn; simp at hn; omega
  obtain ⟨A0, m0, d0, hm0, ok0, R0, x0, x1, x2, x3, x4, x5⟩ := R.fst h
  have HV := Lib.hid (FtS.new (n := n) R V)
  have HP := Lib.hid fun X (H : Hid (FtS w X e (some ad) n c vs B bc)) => H.out.ks.box
  have HX : Hid (∀ X, Hid (FtS w X e (some ad) n c vs B bc) → X.cell? ad = some (.int .u8 (a.k : Int)) ∧ X.cell? ⟨ad.block, ad.off + 1, none⟩ = some (.int .u8 (a.o : Int)) ∧ X.cell? ⟨ad.block, ad.off + 2, none⟩ = some (.int .u8 (a.t : Int)) ∧ X.cell? ⟨ad.block, ad.off + 3, none⟩ = some (.int .i32 a.n) ∧ X.cell? ⟨ad.block, ad.off + 4, none⟩ = some (.int .i64 a.v) ∧ X.cell? ⟨ad.block, ad.off + 5, none⟩ = some (.slice A0 m0 d0)) := Lib.hid fun X H => ⟨(H.out.bel.cell (g_lt x0)).trans x0, (H.out.bel.cell (g_lt x1)).trans x1, (H.out.bel.cell (g_lt x2)).trans x2, (H.out.bel.cell (g_lt x3)).trans x3, (H.out.bel.cell (g_lt x4)).trans x4, (H.out.bel.cell (g_lt x5)).trans x5⟩
  have C3 : Hid (∀ X, Hid (FtS w X e (some ad) n c vs B bc) → Calls Tryd.prog 56 #[.slice B bn bc, kxV a A0 m0 d0, .int .u8 3] X fun en w' => en = .returned (.bool (ftX vs a 3)) ∧ Below X.heap.size X w') := Lib.hid fun X H => by
    have := F0.at R0 hm0 ok0 3 (by omega) H.out
    exact this
  generalize ftX vs a 3 = f3 at *
  clear x0 x1 x2 x3 x4 x5
  obtain ⟨p0, p1, p2, p3, p4, p5⟩ := HP.out _ HV
  obtain ⟨x0, x1, x2, x3, x4, x5⟩ := HX.out _ HV
  clear R V hbn hn hkk R0 F0 hm0 ok0 h
  dsimp only [kxV, kxC] at *
  obtain ⟨g0, hg0⟩ : ∃ g, ((k : Int) == 3) = g := ⟨_, rfl⟩
  rw [hg0]
  cases g0
  · go_enter Tryd.func56, Tryd.ntmps56
    go_wp2
    go_ret
    exact ⟨by simp, HV.out.bel⟩
  · go_enter Tryd.func56, Tryd.ntmps56
    go_wp2_with (go_at_call 56; (with_reducible refine (C3.out _ HV).mono ?_); rintro en w2 ⟨rfl, b⟩; have H2 := Lib.hid (HV.out.step b); clear b; clear p0 p1 p2 p3 p4 p5; obtain ⟨p0, p1, p2, p3, p4, p5⟩ := HP.out _ H2; clear x0 x1 x2 x3 x4 x5; obtain ⟨x0, x1, x2, x3, x4, x5⟩ := HX.out _ H2)
    go_ret
    exact ⟨by simp, H2.out.bel⟩
set_option maxRecDepth 100000 in
set_option maxHeartbeats 8000000 in
theorem ft_4o (vs : List Vr) (B : Option Addr) (bn bc : Nat) (hbn : vs.length = bn) (e a : Kx) (r : List Kx) (h : e.l = a :: r) (F0 : FitC vs B bn bc a) (hkk : e.k = 4) (ho : e.o ≠ 26) (A : Option Addr) (n c k : Nat) (w : World) (hk : k < 256) (R : KrR w A c e.l) (hn : e.l.length = n) (V : VaR w B bc vs) : Calls Tryd.prog 56 #[.slice B bn bc, kxV e A n c, .int .u8 (k : Int)] w fun en w' => en = .returned (.bool (((k : Int) == 1) && ftX vs a 1)) ∧ Below w.heap.size w w' := by
  have q1 : ((e.k : Int) == 1) = false := by simp; omega
  have q2 : ((e.k : Int) == 2) = false := by simp; omega
  have q3 : ((e.k : Int) == 3) = false := by simp; omega
  have q6 : ((e.k : Int) == 6) = false := by simp; omega
  have q4 : ((e.k : Int) == 4) = true := by rw [hkk]; rfl
  have o26 : ((e.o : Int) == 26) = false := by simp; omega
  clear ho
  have hsz : (n : Int) ≤ 9223372036854775807 := by have := R.le; have := R.mx; unfold maxLen at this; omega
  obtain ⟨ad, rfl⟩ := R.some_of h
  have hn0 : (0 : Int) < (n : Int) := by rw [h] at hn; simp at hn; omega
  obtain ⟨A0, m0, d0, hm0, ok0, R0, x0, x1, x2, x3, x4, x5⟩ := R.fst h
  have HV := Lib.hid (FtS.new (n := n) R V)
  have HP := Lib.hid fun X (H : Hid (FtS w X e (some ad) n c vs B bc)) => H.out.ks.box
  have HX : Hid (∀ X, Hid (FtS w X e (some ad) n c vs B bc) → X.cell? ad = some (.int .u8 (a.k : Int)) ∧ X.cell? ⟨ad.block, ad.off + 1, none⟩ = some (.int .u8 (a.o : Int)) ∧ X.cell? ⟨ad.block, ad.off + 2, none⟩ = some (.int .u8 (a.t : Int)) ∧ X.cell? ⟨ad.block, ad.off + 3, none⟩ = some (.int .i32 a.n) ∧ X.cell? ⟨ad.block, ad.off + 4, none⟩ = some (.int .i64 a.v) ∧ X.cell? ⟨ad.block, ad.off + 5, none⟩ = some (.slice A0 m0 d0)) := Lib.hid fun X H => ⟨(H.out.bel.cell (g_lt x0)).trans x0, (H.out.bel.cell (g_lt x1)).trans x1, (H.out.bel.cell (g_lt x2)).trans x2, (H.out.bel.cell (g_lt x3)).trans x3, (H.out.bel.cell (g_lt x4)).trans x4, (H.out.bel.cell (g_lt x5)).trans x5⟩
  have C1 : Hid (∀ X, Hid (FtS w X e (some ad) n c vs B bc) → Calls Tryd.prog 56 #[.slice B bn bc, kxV a A0 m0 d0, .int .u8 1] X fun en w' => en = .returned (.bool (ftX vs a 1)) ∧ Below X.heap.size X w') := Lib.hid fun X H => by
    have := F0.at R0 hm0 ok0 1 (by omega) H.out
    exact this
  generalize ftX vs a 1 = f1 at *
  clear x0 x1 x2 x3 x4 x5
  obtain ⟨p0, p1, p2, p3, p4, p5⟩ := HP.out _ HV
  obtain ⟨x0, x1, x2, x3, x4, x5⟩ := HX.out _ HV
  clear R V hbn hn hkk R0 F0 hm0 ok0 h
  dsimp only [kxV, kxC] at *
  obtain ⟨g0, hg0⟩ : ∃ g, ((k : Int) == 1) = g := ⟨_, rfl⟩
  rw [hg0]
  cases g0
  · go_enter Tryd.func56, Tryd.ntmps56
    go_wp2
    go_ret
    exact ⟨by simp, HV.out.bel⟩
  · go_enter Tryd.func56, Tryd.ntmps56
    go_wp2_with (go_at_call 56; (with_reducible refine (C1.out _ HV).mono ?_); rintro en w2 ⟨rfl, b⟩; have H2 := Lib.hid (HV.out.step b); clear b; clear p0 p1 p2 p3 p4 p5; obtain ⟨p0, p1, p2, p3, p4, p5⟩ := HP.out _ H2; clear x0 x1 x2 x3 x4 x5; obtain ⟨x0, x1, x2, x3, x4, x5⟩ := HX.out _ H2)
    go_ret
    exact ⟨by simp, H2.out.bel⟩
set_option maxRecDepth 100000 in
set_option maxHeartbeats 8000000 in
theorem ft_5a (vs : List Vr) (B : Option Addr) (bn bc : Nat) (hbn : vs.length = bn) (e a b : Kx) (h : e.l = [a, b]) (F0 : FitC vs B bn bc a) (F1 : FitC vs B bn bc b) (hkk : e.k = 5) (A : Option Addr) (n c k : Nat) (w : World) (hk : k < 256) (R : KrR w A c e.l) (hn : e.l.length = n) (V : VaR w B bc vs) (ho : e.o ≤ 13) : Calls Tryd.prog 56 #[.slice B bn bc, kxV e A n c, .int .u8 (k : Int)] w fun en w' => en = .returned (.bool (((k : Int) == 1) && (ftX vs a 1 && ftX vs b 1))) ∧ Below w.heap.size w w' := by
  have q1 : ((e.k : Int) == 1) = false := by simp; omega
  have q2 : ((e.k : Int) == 2) = false := by simp; omega
  have q3 : ((e.k : Int) == 3) = false := by simp; omega
  have q6 : ((e.k : Int) == 6) = false := by simp; omega
  have q4 : ((e.k : Int) == 4) = false := by simp; omega
  have o13 : decide ((e.o : Int) ≤ 13) = true := by simp; omega
  clear ho
  have HV := Lib.hid (FtS.new (n := n) R V)
  have HP := Lib.hid fun X (H : Hid (FtS w X e A n c vs B bc)) => H.out.ks.box
  have D1 : Hid (∀ X, Hid (FtS w X e A n c vs B bc) → Calls Tryd.prog 79 #[.slice B bn bc, kxV e A n c, .int .u8 1] X fun en w' => en = .returned (.bool (ftX vs a 1 && ftX vs b 1)) ∧ Below X.heap.size X w') := Lib.hid fun X H => by
    have := both_of vs B bn bc hbn e a b h F0 F1 A n c 1 X (by omega) H.out.ks.tr hn H.out.v
    exact this
  generalize (ftX vs a 1 && ftX vs b 1) = f1 at *
  clear R V hbn hn hkk F0 F1 h
  obtain ⟨p0, p1, p2, p3, p4, p5⟩ := HP.out _ HV
  dsimp only [kxV, kxC] at *
  obtain ⟨g0, hg0⟩ : ∃ g, ((k : Int) == 1) = g := ⟨_, rfl⟩
  rw [hg0]
  cases g0
  · go_enter Tryd.func56, Tryd.ntmps56
    go_wp2
    go_ret
    exact ⟨by simp, HV.out.bel⟩
  · go_enter Tryd.func56, Tryd.ntmps56
    go_wp2_with (go_at_call 79; (with_reducible refine (D1.out _ HV).mono ?_); rintro en w2 ⟨rfl, b⟩; have H2 := Lib.hid (HV.out.step b); clear b; clear p0 p1 p2 p3 p4 p5; obtain ⟨p0, p1, p2, p3, p4, p5⟩ := HP.out _ H2)
    go_ret
    exact ⟨by simp, H2.out.bel⟩
set_option maxRecDepth 100000 in
set_option maxHeartbeats 8000000 in
theorem ft_5b (vs : List Vr) (B : Option Addr) (bn bc : Nat) (hbn : vs.length = bn) (e a b : Kx) (h : e.l = [a, b]) (F0 : FitC vs B bn bc a) (F1 : FitC vs B bn bc b) (hkk : e.k = 5) (A : Option Addr) (n c k : Nat) (w : World) (hk : k < 256) (R : KrR w A c e.l) (hn : e.l.length = n) (V : VaR w B bc vs) (ho : 13 < e.o) (h3 : k ≠ 3) : Calls Tryd.prog 56 #[.slice B bn bc, kxV e A n c, .int .u8 (k : Int)] w fun en w' => en = .returned (.bool (false)) ∧ Below w.heap.size w w' := by
  have q1 : ((e.k : Int) == 1) = false := by simp; omega
  have q2 : ((e.k : Int) == 2) = false := by simp; omega
  have q3 : ((e.k : Int) == 3) = false := by simp; omega
  have q6 : ((e.k : Int) == 6) = false := by simp; omega
  have q4 : ((e.k : Int) == 4) = false := by simp; omega
  have o13 : decide ((e.o : Int) ≤ 13) = false := by simp; omega
  have k3 : ((k : Int) != 3) = true := by simp; omega
  clear ho h3
  have HV := Lib.hid (FtS.new (n := n) R V)
  have HP := Lib.hid fun X (H : Hid (FtS w X e A n c vs B bc)) => H.out.ks.box
  clear R V hbn hn hkk F0 F1 h
  obtain ⟨p0, p1, p2, p3, p4, p5⟩ := HP.out _ HV
  dsimp only [kxV, kxC] at *
  go_enter Tryd.func56, Tryd.ntmps56
  go_wp2
  go_ret
  exact ⟨rfl, HV.out.bel⟩
set_option maxRecDepth 100000 in
set_option maxHeartbeats 8000000 in
theorem ft_5c (vs : List Vr) (B : Option Addr) (bn bc : Nat) (hbn : vs.length = bn) (e a b : Kx) (h : e.l = [a, b]) (F0 : FitC vs B bn bc a) (F1 : FitC vs B bn bc b) (hkk : e.k = 5) (A : Option Addr) (n c k : Nat) (w : World) (hk : k < 256) (R : KrR w A c e.l) (hn : e.l.length = n) (V : VaR w B bc vs) (ho : e.o = 14) (h3 : k = 3) : Calls Tryd.prog 56 #[.slice B bn bc, kxV e A n c, .int .u8 (k : Int)] w fun en w' => en = .returned (.bool ((ftX vs a 1 && ftX vs b 1) || (ftX vs a 2 && ftX vs b 2) || (ftX vs a 3 && ftX vs b 3))) ∧ Below w.heap.size w w' := by
  have q1 : ((e.k : Int) == 1) = false := by simp; omega
  have q2 : ((e.k : Int) == 2) = false := by simp; omega
  have q3 : ((e.k : Int) == 3) = false := by simp; omega
  have q6 : ((e.k : Int) == 6) = false := by simp; omega
  have q4 : ((e.k : Int) == 4) = false := by simp; omega
  have o13 : decide ((e.o : Int) ≤ 13) = false := by simp; omega
  have k3 : ((k : Int) != 3) = false := by rw [h3]; rfl
  have o14 : ((e.o : Int) == 14) = true := by rw [ho]; rfl
  clear ho h3
  have HV := Lib.hid (FtS.new (n := n) R V)
  have HP := Lib.hid fun X (H : Hid (FtS w X e A n c vs B bc)) => H.out.ks.box
  have D1 : Hid (∀ X, Hid (FtS w X e A n c vs B bc) → Calls Tryd.prog 79 #[.slice B bn bc, kxV e A n c, .int .u8 1] X fun en w' => en = .returned (.bool (ftX vs a 1 && ftX vs b 1)) ∧ Below X.heap.size X w') := Lib.hid fun X H => by
    have := both_of vs B bn bc hbn e a b h F0 F1 A n c 1 X (by omega) H.out.ks.tr hn H.out.v
    exact this
  generalize (ftX vs a 1 && ftX vs b 1) = f1 at *
  have D2 : Hid (∀ X, Hid (FtS w X e A n c vs B bc) → Calls Tryd.prog 79 #[.slice B bn bc, kxV e A n c, .int .u8 2] X fun en w' => en = .returned (.bool (ftX vs a 2 && ftX vs b 2)) ∧ Below X.heap.size X w') := Lib.hid fun X H => by
    have := both_of vs B bn bc hbn e a b h F0 F1 A n c 2 X (by omega) H.out.ks.tr hn H.out.v
    exact this
  generalize (ftX vs a 2 && ftX vs b 2) = f2 at *
  have D3 : Hid (∀ X, Hid (FtS w X e A n c vs B bc) → Calls Tryd.prog 79 #[.slice B bn bc, kxV e A n c, .int .u8 3] X fun en w' => en = .returned (.bool (ftX vs a 3 && ftX vs b 3)) ∧ Below X.heap.size X w') := Lib.hid fun X H => by
    have := both_of vs B bn bc hbn e a b h F0 F1 A n c 3 X (by omega) H.out.ks.tr hn H.out.v
    exact this
  generalize (ftX vs a 3 && ftX vs b 3) = f3 at *
  clear R V hbn hn hkk F0 F1 h
  obtain ⟨p0, p1, p2, p3, p4, p5⟩ := HP.out _ HV
  dsimp only [kxV, kxC] at *
  cases f1
  · cases f2
    · go_enter Tryd.func56, Tryd.ntmps56
      go_wp2_with (first
        | (go_at_call 79; (with_reducible refine (D1.out _ HV).mono ?_); rintro en w2 ⟨rfl, b⟩; have H2 := Lib.hid (HV.out.step b); clear b; clear p0 p1 p2 p3 p4 p5; obtain ⟨p0, p1, p2, p3, p4, p5⟩ := HP.out _ H2)
        | (go_at_call 79; (with_reducible refine (D2.out _ H2).mono ?_); rintro en w3 ⟨rfl, b⟩; have H3 := Lib.hid (H2.out.step b); clear b; clear p0 p1 p2 p3 p4 p5; obtain ⟨p0, p1, p2, p3, p4, p5⟩ := HP.out _ H3)
        | (go_at_call 79; (with_reducible refine (D3.out _ H3).mono ?_); rintro en w4 ⟨rfl, b⟩; have H4 := Lib.hid (H3.out.step b); clear b; clear p0 p1 p2 p3 p4 p5; obtain ⟨p0, p1, p2, p3, p4, p5⟩ := HP.out _ H4))
      go_ret
      exact ⟨by simp, H4.out.bel⟩
    · go_enter Tryd.func56, Tryd.ntmps56
      go_wp2_with (first
        | (go_at_call 79; (with_reducible refine (D1.out _ HV).mono ?_); rintro en w2 ⟨rfl, b⟩; have H2 := Lib.hid (HV.out.step b); clear b; clear p0 p1 p2 p3 p4 p5; obtain ⟨p0, p1, p2, p3, p4, p5⟩ := HP.out _ H2)
        | (go_at_call 79; (with_reducible refine (D2.out _ H2).mono ?_); rintro en w3 ⟨rfl, b⟩; have H3 := Lib.hid (H2.out.step b); clear b; clear p0 p1 p2 p3 p4 p5; obtain ⟨p0, p1, p2, p3, p4, p5⟩ := HP.out _ H3))
      go_ret
      exact ⟨by simp, H3.out.bel⟩
  · go_enter Tryd.func56, Tryd.ntmps56
    go_wp2_with (go_at_call 79; (with_reducible refine (D1.out _ HV).mono ?_); rintro en w2 ⟨rfl, b⟩; have H2 := Lib.hid (HV.out.step b); clear b; clear p0 p1 p2 p3 p4 p5; obtain ⟨p0, p1, p2, p3, p4, p5⟩ := HP.out _ H2)
    go_ret
    exact ⟨by simp, H2.out.bel⟩
set_option maxRecDepth 100000 in
set_option maxHeartbeats 8000000 in
theorem ft_5d (vs : List Vr) (B : Option Addr) (bn bc : Nat) (hbn : vs.length = bn) (e a b : Kx) (h : e.l = [a, b]) (F0 : FitC vs B bn bc a) (F1 : FitC vs B bn bc b) (hkk : e.k = 5) (A : Option Addr) (n c k : Nat) (w : World) (hk : k < 256) (R : KrR w A c e.l) (hn : e.l.length = n) (V : VaR w B bc vs) (ho : e.o = 15) (h3 : k = 3) : Calls Tryd.prog 56 #[.slice B bn bc, kxV e A n c, .int .u8 (k : Int)] w fun en w' => en = .returned (.bool ((ftX vs a 1 && ftX vs b 1) || (ftX vs a 2 && ftX vs b 2) || (ftX vs a 3 && ftX vs b 3))) ∧ Below w.heap.size w w' := by
  have q1 : ((e.k : Int) == 1) = false := by simp; omega
  have q2 : ((e.k : Int) == 2) = false := by simp; omega
  have q3 : ((e.k : Int) == 3) = false := by simp; omega
  have q6 : ((e.k : Int) == 6) = false := by simp; omega
  have q4 : ((e.k : Int) == 4) = false := by simp; omega
  have o13 : decide ((e.o : Int) ≤ 13) = false := by simp; omega
  have k3 : ((k : Int) != 3) = false := by rw [h3]; rfl
  have o14 : ((e.o : Int) == 14) = false := by simp; omega
  have o15 : ((e.o : Int) == 15) = true := by rw [ho]; rfl
  clear ho h3
  have HV := Lib.hid (FtS.new (n := n) R V)
  have HP := Lib.hid fun X (H : Hid (FtS w X e A n c vs B bc)) => H.out.ks.box
  have D1 : Hid (∀ X, Hid (FtS w X e A n c vs B bc) → Calls Tryd.prog 79 #[.slice B bn bc, kxV e A n c, .int .u8 1] X fun en w' => en = .returned (.bool (ftX vs a 1 && ftX vs b 1)) ∧ Below X.heap.size X w') := Lib.hid fun X H => by
    have := both_of vs B bn bc hbn e a b h F0 F1 A n c 1 X (by omega) H.out.ks.tr hn H.out.v
    exact this
  generalize (ftX vs a 1 && ftX vs b 1) = f1 at *
  have D2 : Hid (∀ X, Hid (FtS w X e A n c vs B bc) → Calls Tryd.prog 79 #[.slice B bn bc, kxV e A n c, .int .u8 2] X fun en w' => en = .returned (.bool (ftX vs a 2 && ftX vs b 2)) ∧ Below X.heap.size X w') := Lib.hid fun X H => by
    have := both_of vs B bn bc hbn e a b h F0 F1 A n c 2 X (by omega) H.out.ks.tr hn H.out.v
    exact this
  generalize (ftX vs a 2 && ftX vs b 2) = f2 at *
  have D3 : Hid (∀ X, Hid (FtS w X e A n c vs B bc) → Calls Tryd.prog 79 #[.slice B bn bc, kxV e A n c, .int .u8 3] X fun en w' => en = .returned (.bool (ftX vs a 3 && ftX vs b 3)) ∧ Below X.heap.size X w') := Lib.hid fun X H => by
    have := both_of vs B bn bc hbn e a b h F0 F1 A n c 3 X (by omega) H.out.ks.tr hn H.out.v
    exact this
  generalize (ftX vs a 3 && ftX vs b 3) = f3 at *
  clear R V hbn hn hkk F0 F1 h
  obtain ⟨p0, p1, p2, p3, p4, p5⟩ := HP.out _ HV
  dsimp only [kxV, kxC] at *
  cases f1
  · cases f2
    · go_enter Tryd.func56, Tryd.ntmps56
      go_wp2_with (first
        | (go_at_call 79; (with_reducible refine (D1.out _ HV).mono ?_); rintro en w2 ⟨rfl, b⟩; have H2 := Lib.hid (HV.out.step b); clear b; clear p0 p1 p2 p3 p4 p5; obtain ⟨p0, p1, p2, p3, p4, p5⟩ := HP.out _ H2)
        | (go_at_call 79; (with_reducible refine (D2.out _ H2).mono ?_); rintro en w3 ⟨rfl, b⟩; have H3 := Lib.hid (H2.out.step b); clear b; clear p0 p1 p2 p3 p4 p5; obtain ⟨p0, p1, p2, p3, p4, p5⟩ := HP.out _ H3)
        | (go_at_call 79; (with_reducible refine (D3.out _ H3).mono ?_); rintro en w4 ⟨rfl, b⟩; have H4 := Lib.hid (H3.out.step b); clear b; clear p0 p1 p2 p3 p4 p5; obtain ⟨p0, p1, p2, p3, p4, p5⟩ := HP.out _ H4))
      go_ret
      exact ⟨by simp, H4.out.bel⟩
    · go_enter Tryd.func56, Tryd.ntmps56
      go_wp2_with (first
        | (go_at_call 79; (with_reducible refine (D1.out _ HV).mono ?_); rintro en w2 ⟨rfl, b⟩; have H2 := Lib.hid (HV.out.step b); clear b; clear p0 p1 p2 p3 p4 p5; obtain ⟨p0, p1, p2, p3, p4, p5⟩ := HP.out _ H2)
        | (go_at_call 79; (with_reducible refine (D2.out _ H2).mono ?_); rintro en w3 ⟨rfl, b⟩; have H3 := Lib.hid (H2.out.step b); clear b; clear p0 p1 p2 p3 p4 p5; obtain ⟨p0, p1, p2, p3, p4, p5⟩ := HP.out _ H3))
      go_ret
      exact ⟨by simp, H3.out.bel⟩
  · go_enter Tryd.func56, Tryd.ntmps56
    go_wp2_with (go_at_call 79; (with_reducible refine (D1.out _ HV).mono ?_); rintro en w2 ⟨rfl, b⟩; have H2 := Lib.hid (HV.out.step b); clear b; clear p0 p1 p2 p3 p4 p5; obtain ⟨p0, p1, p2, p3, p4, p5⟩ := HP.out _ H2)
    go_ret
    exact ⟨by simp, H2.out.bel⟩
set_option maxRecDepth 100000 in
set_option maxHeartbeats 8000000 in
theorem ft_5e (vs : List Vr) (B : Option Addr) (bn bc : Nat) (hbn : vs.length = bn) (e a b : Kx) (h : e.l = [a, b]) (F0 : FitC vs B bn bc a) (F1 : FitC vs B bn bc b) (hkk : e.k = 5) (A : Option Addr) (n c k : Nat) (w : World) (hk : k < 256) (R : KrR w A c e.l) (hn : e.l.length = n) (V : VaR w B bc vs) (ho : 16 ≤ e.o ∧ e.o ≤ 19) (h3 : k = 3) : Calls Tryd.prog 56 #[.slice B bn bc, kxV e A n c, .int .u8 (k : Int)] w fun en w' => en = .returned (.bool ((ftX vs a 1 && ftX vs b 1) || (ftX vs a 2 && ftX vs b 2))) ∧ Below w.heap.size w w' := by
  have q1 : ((e.k : Int) == 1) = false := by simp; omega
  have q2 : ((e.k : Int) == 2) = false := by simp; omega
  have q3 : ((e.k : Int) == 3) = false := by simp; omega
  have q6 : ((e.k : Int) == 6) = false := by simp; omega
  have q4 : ((e.k : Int) == 4) = false := by simp; omega
  have o13 : decide ((e.o : Int) ≤ 13) = false := by simp; omega
  have k3 : ((k : Int) != 3) = false := by rw [h3]; rfl
  have o14 : ((e.o : Int) == 14) = false := by simp; omega
  have o15 : ((e.o : Int) == 15) = false := by simp; omega
  have o19 : decide ((e.o : Int) ≤ 19) = true := by simp; omega
  clear ho h3
  have HV := Lib.hid (FtS.new (n := n) R V)
  have HP := Lib.hid fun X (H : Hid (FtS w X e A n c vs B bc)) => H.out.ks.box
  have D1 : Hid (∀ X, Hid (FtS w X e A n c vs B bc) → Calls Tryd.prog 79 #[.slice B bn bc, kxV e A n c, .int .u8 1] X fun en w' => en = .returned (.bool (ftX vs a 1 && ftX vs b 1)) ∧ Below X.heap.size X w') := Lib.hid fun X H => by
    have := both_of vs B bn bc hbn e a b h F0 F1 A n c 1 X (by omega) H.out.ks.tr hn H.out.v
    exact this
  generalize (ftX vs a 1 && ftX vs b 1) = f1 at *
  have D2 : Hid (∀ X, Hid (FtS w X e A n c vs B bc) → Calls Tryd.prog 79 #[.slice B bn bc, kxV e A n c, .int .u8 2] X fun en w' => en = .returned (.bool (ftX vs a 2 && ftX vs b 2)) ∧ Below X.heap.size X w') := Lib.hid fun X H => by
    have := both_of vs B bn bc hbn e a b h F0 F1 A n c 2 X (by omega) H.out.ks.tr hn H.out.v
    exact this
  generalize (ftX vs a 2 && ftX vs b 2) = f2 at *
  clear R V hbn hn hkk F0 F1 h
  obtain ⟨p0, p1, p2, p3, p4, p5⟩ := HP.out _ HV
  dsimp only [kxV, kxC] at *
  cases f1
  · go_enter Tryd.func56, Tryd.ntmps56
    go_wp2_with (first
      | (go_at_call 79; (with_reducible refine (D1.out _ HV).mono ?_); rintro en w2 ⟨rfl, b⟩; have H2 := Lib.hid (HV.out.step b); clear b; clear p0 p1 p2 p3 p4 p5; obtain ⟨p0, p1, p2, p3, p4, p5⟩ := HP.out _ H2)
      | (go_at_call 79; (with_reducible refine (D2.out _ H2).mono ?_); rintro en w3 ⟨rfl, b⟩; have H3 := Lib.hid (H2.out.step b); clear b; clear p0 p1 p2 p3 p4 p5; obtain ⟨p0, p1, p2, p3, p4, p5⟩ := HP.out _ H3))
    go_ret
    exact ⟨by simp, H3.out.bel⟩
  · go_enter Tryd.func56, Tryd.ntmps56
    go_wp2_with (go_at_call 79; (with_reducible refine (D1.out _ HV).mono ?_); rintro en w2 ⟨rfl, b⟩; have H2 := Lib.hid (HV.out.step b); clear b; clear p0 p1 p2 p3 p4 p5; obtain ⟨p0, p1, p2, p3, p4, p5⟩ := HP.out _ H2)
    go_ret
    exact ⟨by simp, H2.out.bel⟩
set_option maxRecDepth 100000 in
set_option maxHeartbeats 8000000 in
theorem ft_5f (vs : List Vr) (B : Option Addr) (bn bc : Nat) (hbn : vs.length = bn) (e a b : Kx) (h : e.l = [a, b]) (F0 : FitC vs B bn bc a) (F1 : FitC vs B bn bc b) (hkk : e.k = 5) (A : Option Addr) (n c k : Nat) (w : World) (hk : k < 256) (R : KrR w A c e.l) (hn : e.l.length = n) (V : VaR w B bc vs) (ho : e.o = 22) (h3 : k = 3) : Calls Tryd.prog 56 #[.slice B bn bc, kxV e A n c, .int .u8 (k : Int)] w fun en w' => en = .returned (.bool (ftX vs a 1 && ftX vs b 1)) ∧ Below w.heap.size w w' := by
  have q1 : ((e.k : Int) == 1) = false := by simp; omega
  have q2 : ((e.k : Int) == 2) = false := by simp; omega
  have q3 : ((e.k : Int) == 3) = false := by simp; omega
  have q6 : ((e.k : Int) == 6) = false := by simp; omega
  have q4 : ((e.k : Int) == 4) = false := by simp; omega
  have o13 : decide ((e.o : Int) ≤ 13) = false := by simp; omega
  have k3 : ((k : Int) != 3) = false := by rw [h3]; rfl
  have o14 : ((e.o : Int) == 14) = false := by simp; omega
  have o15 : ((e.o : Int) == 15) = false := by simp; omega
  have o19 : decide ((e.o : Int) ≤ 19) = false := by simp; omega
  have o22 : ((e.o : Int) == 22) = true := by rw [ho]; rfl
  clear ho h3
  have HV := Lib.hid (FtS.new (n := n) R V)
  have HP := Lib.hid fun X (H : Hid (FtS w X e A n c vs B bc)) => H.out.ks.box
  have D1 : Hid (∀ X, Hid (FtS w X e A n c vs B bc) → Calls Tryd.prog 79 #[.slice B bn bc, kxV e A n c, .int .u8 1] X fun en w' => en = .returned (.bool (ftX vs a 1 && ftX vs b 1)) ∧ Below X.heap.size X w') := Lib.hid fun X H => by
    have := both_of vs B bn bc hbn e a b h F0 F1 A n c 1 X (by omega) H.out.ks.tr hn H.out.v
    exact this
  generalize (ftX vs a 1 && ftX vs b 1) = f1 at *
  clear R V hbn hn hkk F0 F1 h
  obtain ⟨p0, p1, p2, p3, p4, p5⟩ := HP.out _ HV
  dsimp only [kxV, kxC] at *
  go_enter Tryd.func56, Tryd.ntmps56
  go_wp2_with (go_at_call 79; (with_reducible refine (D1.out _ HV).mono ?_); rintro en w2 ⟨rfl, b⟩; have H2 := Lib.hid (HV.out.step b); clear b; clear p0 p1 p2 p3 p4 p5; obtain ⟨p0, p1, p2, p3, p4, p5⟩ := HP.out _ H2)
  go_ret
  exact ⟨rfl, H2.out.bel⟩
set_option maxRecDepth 100000 in
set_option maxHeartbeats 8000000 in
theorem ft_5g (vs : List Vr) (B : Option Addr) (bn bc : Nat) (hbn : vs.length = bn) (e a b : Kx) (h : e.l = [a, b]) (F0 : FitC vs B bn bc a) (F1 : FitC vs B bn bc b) (hkk : e.k = 5) (A : Option Addr) (n c k : Nat) (w : World) (hk : k < 256) (R : KrR w A c e.l) (hn : e.l.length = n) (V : VaR w B bc vs) (ho : 20 ≤ e.o) (ho2 : e.o ≠ 22) (h3 : k = 3) : Calls Tryd.prog 56 #[.slice B bn bc, kxV e A n c, .int .u8 (k : Int)] w fun en w' => en = .returned (.bool (ftX vs a 3 && ftX vs b 3)) ∧ Below w.heap.size w w' := by
  have q1 : ((e.k : Int) == 1) = false := by simp; omega
  have q2 : ((e.k : Int) == 2) = false := by simp; omega
  have q3 : ((e.k : Int) == 3) = false := by simp; omega
  have q6 : ((e.k : Int) == 6) = false := by simp; omega
  have q4 : ((e.k : Int) == 4) = false := by simp; omega
  have o13 : decide ((e.o : Int) ≤ 13) = false := by simp; omega
  have k3 : ((k : Int) != 3) = false := by rw [h3]; rfl
  have o14 : ((e.o : Int) == 14) = false := by simp; omega
  have o15 : ((e.o : Int) == 15) = false := by simp; omega
  have o19 : decide ((e.o : Int) ≤ 19) = false := by simp; omega
  have o22 : ((e.o : Int) == 22) = false := by simp; omega
  clear ho h3
  have HV := Lib.hid (FtS.new (n := n) R V)
  have HP := Lib.hid fun X (H : Hid (FtS w X e A n c vs B bc)) => H.out.ks.box
  have D3 : Hid (∀ X, Hid (FtS w X e A n c vs B bc) → Calls Tryd.prog 79 #[.slice B bn bc, kxV e A n c, .int .u8 3] X fun en w' => en = .returned (.bool (ftX vs a 3 && ftX vs b 3)) ∧ Below X.heap.size X w') := Lib.hid fun X H => by
    have := both_of vs B bn bc hbn e a b h F0 F1 A n c 3 X (by omega) H.out.ks.tr hn H.out.v
    exact this
  generalize (ftX vs a 3 && ftX vs b 3) = f3 at *
  clear R V hbn hn hkk F0 F1 h
  obtain ⟨p0, p1, p2, p3, p4, p5⟩ := HP.out _ HV
  dsimp only [kxV, kxC] at *
  go_enter Tryd.func56, Tryd.ntmps56
  go_wp2_with (go_at_call 79; (with_reducible refine (D3.out _ HV).mono ?_); rintro en w2 ⟨rfl, b⟩; have H2 := Lib.hid (HV.out.step b); clear b; clear p0 p1 p2 p3 p4 p5; obtain ⟨p0, p1, p2, p3, p4, p5⟩ := HP.out _ H2)
  go_ret
  exact ⟨rfl, H2.out.bel⟩
end Go.Proofs.YtblckajejohlbaaDoor
