/- The reference: the value of an expression. -/
import Derived.Test.YtblckajejohlbaaDoorM05
import Derived.Test.YtblckajejohlbaaDoorM06
import Derived.Test.YtblckajejohlbaaDoorM04
set_option linter.unusedVariables false
set_option linter.unusedSimpArgs false
set_option linter.unusedVariables false
set_option linter.unusedSimpArgs false
namespace Go.Proofs.YtblckajejohlbaaDoor
open Go Go.RowKit L8 L22 L17
open L14 (apO conO inW isT)

set_option maxRecDepth 100000 in
set_option maxHeartbeats 4000000 in
theorem rv_1 (s : St) (S : Option Addr) (sn sc : Nat) (hs : s.length = sn) (e : Kx) (hk : e.k = 1) (A : Option Addr) (n c : Nat) (w : World) (R : KrR w A c e.l) (hn : e.l.length = n) (T : StR w S sc s) : Calls Tryd.prog 48 #[.slice S sn sc, kxV e A n c] w fun en w' => en = .returned (apR (some e.n)) ∧ Below w.heap.size w w' := by
  have q1 : ((e.k : Int) == 1) = true := by rw [hk]; rfl
  have HV := Lib.hid (VS.new (n := n) R T)
  have HB := Lib.hid HV.out.bel
  obtain ⟨p0, p1, p2, p3, p4, p5⟩ := HV.out.box
  clear R T HV hs hn hk
  unfold apR
  dsimp only [kxV, kxC] at *
  go_enter Tryd.func48, Tryd.ntmps48
  go_wp2
  go_ret2
  exact ⟨rfl, HB.out⟩
set_option maxRecDepth 100000 in
set_option maxHeartbeats 4000000 in
theorem rv_2 (s : St) (S : Option Addr) (sn sc : Nat) (hs : s.length = sn) (e : Kx) (hk : e.k = 2) (A : Option Addr) (n c : Nat) (w : World) (R : KrR w A c e.l) (hn : e.l.length = n) (T : StR w S sc s) : Calls Tryd.prog 48 #[.slice S sn sc, kxV e A n c] w fun en w' => en = .returned (apR (atS s e.v 0)) ∧ Below w.heap.size w w' := by
  have q1 : ((e.k : Int) == 1) = false := by rw [hk]; rfl
  have q2 : ((e.k : Int) == 2) = true := by rw [hk]; rfl
  have HV := Lib.hid (VS.new (n := n) R T)
  have HB := Lib.hid HV.out.bel
  obtain ⟨p0, p1, p2, p3, p4, p5⟩ := HV.out.box
  have CA := Lib.hid fun X (H : Hid (VS w X e A n c s S sc)) => RAt_any s S sn sc e.v 0 X H.out.st hs
  generalize atS s e.v 0 = y at *
  clear R T hs hn hk
  unfold apR at *
  dsimp only [kxV, kxC] at *
  go_enter Tryd.func48, Tryd.ntmps48
  go_wp2_with (go_at_call 51; (with_reducible refine (CA.out _ HV).mono ?_); rintro en w' ⟨rfl, rfl⟩)
  go_ret2
  exact ⟨rfl, HB.out⟩
set_option maxRecDepth 100000 in
set_option maxHeartbeats 4000000 in
theorem rv_none (s : St) (S : Option Addr) (sn sc : Nat) (hs : s.length = sn) (e : Kx) (a : Kx) (r : List Kx) (h : e.l = a :: r) (hk : e.k ≠ 1) (hk2 : e.k ≠ 2) (C0 : ∀ (B : Option Addr) (m d : Nat) (X : World), KrR X B d a.l → a.l.length = m → StR X S sc s → Calls Tryd.prog 48 #[.slice S sn sc, kxV a B m d] X fun en w' => en = .returned (apR none) ∧ Below X.heap.size X w') (A : Option Addr) (n c : Nat) (w : World) (R : KrR w A c e.l) (hn : e.l.length = n) (T : StR w S sc s) : Calls Tryd.prog 48 #[.slice S sn sc, kxV e A n c] w fun en w' => en = .returned (apR (none)) ∧ Below w.heap.size w w' := by
  have q1 : ((e.k : Int) == 1) = false := by simp; omega
  have q2 : ((e.k : Int) == 2) = false := by simp; omega
  have hsz : (n : Int) ≤ 9223372036854775807 := by have := R.le; have := R.mx; unfold maxLen at this; omega
  obtain ⟨ad, rfl⟩ := R.some_of h
  have HV := Lib.hid (VS.new (n := n) R T)
  have HB := Lib.hid HV.out.bel
  obtain ⟨p0, p1, p2, p3, p4, p5⟩ := HV.out.box
  have hn0 : (0 : Int) < (n : Int) := by rw [h, List.length_cons] at hn; omega
  obtain ⟨B, m, d, hm, oka, Ra, x0, x1, x2, x3, x4, x5⟩ := HV.out.tr.fst h
  have C := Lib.hid (C0 B m d _ Ra hm HV.out.st)
  have HP := Lib.hid fun X (H : Hid (VS w X e (some ad) n c s S sc)) => H.out.box
  clear R T Ra hm oka h hn C0
  clear hk hk2
  unfold apR at *
  clear hs
  dsimp only [kxV, kxC] at *
  go_enter Tryd.func48, Tryd.ntmps48
  go_wp2_with (go_at_call 48; (with_reducible refine (C.out).mono ?_); rintro en w2 ⟨rfl, b⟩; have H2 := Lib.hid (HV.out.step b); clear b; clear p0 p1 p2 p3 p4 p5; obtain ⟨p0, p1, p2, p3, p4, p5⟩ := HP.out _ H2)
  go_ret2
  exact ⟨rfl, H2.out.bel⟩
set_option maxRecDepth 100000 in
set_option maxHeartbeats 4000000 in
theorem rv_3 (s : St) (S : Option Addr) (sn sc : Nat) (hs : s.length = sn) (e : Kx) (a : Kx) (r : List Kx) (h : e.l = a :: r) (hk : e.k = 3) (x : Int) (hx : inW x) (C0 : ∀ (B : Option Addr) (m d : Nat) (X : World), KrR X B d a.l → a.l.length = m → StR X S sc s → Calls Tryd.prog 48 #[.slice S sn sc, kxV a B m d] X fun en w' => en = .returned (apR (some x)) ∧ Below X.heap.size X w') (A : Option Addr) (n c : Nat) (w : World) (R : KrR w A c e.l) (hn : e.l.length = n) (T : StR w S sc s) : Calls Tryd.prog 48 #[.slice S sn sc, kxV e A n c] w fun en w' => en = .returned (apR (atS s e.v x)) ∧ Below w.heap.size w w' := by
  have q1 : ((e.k : Int) == 1) = false := by rw [hk]; rfl
  have q2 : ((e.k : Int) == 2) = false := by rw [hk]; rfl
  have q3 : ((e.k : Int) == 3) = true := by rw [hk]; rfl
  have hsz : (n : Int) ≤ 9223372036854775807 := by have := R.le; have := R.mx; unfold maxLen at this; omega
  obtain ⟨ad, rfl⟩ := R.some_of h
  have HV := Lib.hid (VS.new (n := n) R T)
  have HB := Lib.hid HV.out.bel
  obtain ⟨p0, p1, p2, p3, p4, p5⟩ := HV.out.box
  have hn0 : (0 : Int) < (n : Int) := by rw [h, List.length_cons] at hn; omega
  obtain ⟨B, m, d, hm, oka, Ra, x0, x1, x2, x3, x4, x5⟩ := HV.out.tr.fst h
  have C := Lib.hid (C0 B m d _ Ra hm HV.out.st)
  have HP := Lib.hid fun X (H : Hid (VS w X e (some ad) n c s S sc)) => H.out.box
  have CA := Lib.hid fun X (H : Hid (VS w X e (some ad) n c s S sc)) => RAt_any s S sn sc e.v x X H.out.st hs
  clear R T Ra hm oka h hn C0
  clear hk hs
  obtain ⟨hx1, hx2⟩ := hx
  generalize atS s e.v x = y at *
  unfold apR at *
  dsimp only [kxV, kxC] at *
  go_enter Tryd.func48, Tryd.ntmps48
  go_wp2_with (first
    | (go_at_call 48; (with_reducible refine (C.out).mono ?_); rintro en w2 ⟨rfl, b⟩; have H2 := Lib.hid (HV.out.step b); clear b; clear p0 p1 p2 p3 p4 p5; obtain ⟨p0, p1, p2, p3, p4, p5⟩ := HP.out _ H2)
    | (go_at_call 51; (with_reducible refine (CA.out _ H2).mono ?_); rintro en w' ⟨rfl, rfl⟩))
  go_ret2
  exact ⟨rfl, H2.out.bel⟩
set_option maxRecDepth 100000 in
set_option maxHeartbeats 4000000 in
theorem rv_4 (s : St) (S : Option Addr) (sn sc : Nat) (hs : s.length = sn) (e : Kx) (a : Kx) (r : List Kx) (h : e.l = a :: r) (hk : e.k = 4) (x : Int) (hx : inW x) (C0 : ∀ (B : Option Addr) (m d : Nat) (X : World), KrR X B d a.l → a.l.length = m → StR X S sc s → Calls Tryd.prog 48 #[.slice S sn sc, kxV a B m d] X fun en w' => en = .returned (apR (some x)) ∧ Below X.heap.size X w') (A : Option Addr) (n c : Nat) (w : World) (R : KrR w A c e.l) (hn : e.l.length = n) (T : StR w S sc s) : Calls Tryd.prog 48 #[.slice S sn sc, kxV e A n c] w fun en w' => en = .returned (apR (apO e.o x 0)) ∧ Below w.heap.size w w' := by
  have q1 : ((e.k : Int) == 1) = false := by rw [hk]; rfl
  have q2 : ((e.k : Int) == 2) = false := by rw [hk]; rfl
  have q3 : ((e.k : Int) == 3) = false := by rw [hk]; rfl
  have q4 : ((e.k : Int) == 4) = true := by rw [hk]; rfl
  have hsz : (n : Int) ≤ 9223372036854775807 := by have := R.le; have := R.mx; unfold maxLen at this; omega
  obtain ⟨ad, rfl⟩ := R.some_of h
  have HV := Lib.hid (VS.new (n := n) R T)
  have HB := Lib.hid HV.out.bel
  obtain ⟨p0, p1, p2, p3, p4, p5⟩ := HV.out.box
  have hn0 : (0 : Int) < (n : Int) := by rw [h, List.length_cons] at hn; omega
  obtain ⟨B, m, d, hm, oka, Ra, x0, x1, x2, x3, x4, x5⟩ := HV.out.tr.fst h
  have C := Lib.hid (C0 B m d _ Ra hm HV.out.st)
  have HP := Lib.hid fun X (H : Hid (VS w X e (some ad) n c s S sc)) => H.out.box
  have CA := Lib.hid fun X => RApply_any e.o x 0 hx ⟨by omega, by omega⟩ X
  clear R T Ra hm oka h hn C0
  clear hk hs hx
  generalize apO e.o x 0 = y at *
  unfold ApR apR at *
  dsimp only [kxV, kxC] at *
  go_enter Tryd.func48, Tryd.ntmps48
  go_wp2_with (first
    | (go_at_call 48; (with_reducible refine (C.out).mono ?_); rintro en w2 ⟨rfl, b⟩; have H2 := Lib.hid (HV.out.step b); clear b; clear p0 p1 p2 p3 p4 p5; obtain ⟨p0, p1, p2, p3, p4, p5⟩ := HP.out _ H2)
    | (go_at_call 70; (with_reducible refine (CA.out _).mono ?_); rintro en w3 ⟨rfl, b⟩; have H3 := Lib.hid (H2.out.step b); clear b))
  go_ret2
  exact ⟨rfl, H3.out.bel⟩
set_option maxRecDepth 100000 in
set_option maxHeartbeats 4000000 in
theorem rv_6 (s : St) (S : Option Addr) (sn sc : Nat) (hs : s.length = sn) (e : Kx) (a : Kx) (r : List Kx) (h : e.l = a :: r) (hk : e.k = 6) (x : Int) (hx : inW x) (C0 : ∀ (B : Option Addr) (m d : Nat) (X : World), KrR X B d a.l → a.l.length = m → StR X S sc s → Calls Tryd.prog 48 #[.slice S sn sc, kxV a B m d] X fun en w' => en = .returned (apR (some x)) ∧ Below X.heap.size X w') (A : Option Addr) (n c : Nat) (w : World) (R : KrR w A c e.l) (hn : e.l.length = n) (T : StR w S sc s) : Calls Tryd.prog 48 #[.slice S sn sc, kxV e A n c] w fun en w' => en = .returned (apR (conO e.t x)) ∧ Below w.heap.size w w' := by
  have q1 : ((e.k : Int) == 1) = false := by rw [hk]; rfl
  have q2 : ((e.k : Int) == 2) = false := by rw [hk]; rfl
  have q3 : ((e.k : Int) == 3) = false := by rw [hk]; rfl
  have q4 : ((e.k : Int) == 4) = false := by rw [hk]; rfl
  have q6 : ((e.k : Int) == 6) = true := by rw [hk]; rfl
  have hsz : (n : Int) ≤ 9223372036854775807 := by have := R.le; have := R.mx; unfold maxLen at this; omega
  obtain ⟨ad, rfl⟩ := R.some_of h
  have HV := Lib.hid (VS.new (n := n) R T)
  have HB := Lib.hid HV.out.bel
  obtain ⟨p0, p1, p2, p3, p4, p5⟩ := HV.out.box
  have hn0 : (0 : Int) < (n : Int) := by rw [h, List.length_cons] at hn; omega
  obtain ⟨B, m, d, hm, oka, Ra, x0, x1, x2, x3, x4, x5⟩ := HV.out.tr.fst h
  have C := Lib.hid (C0 B m d _ Ra hm HV.out.st)
  have HP := Lib.hid fun X (H : Hid (VS w X e (some ad) n c s S sc)) => H.out.box
  have CA := Lib.hid fun X => RConvert_any e.t x X
  clear R T Ra hm oka h hn C0
  clear hk hs hx
  generalize conO e.t x = y at *
  unfold apR at *
  dsimp only [kxV, kxC] at *
  go_enter Tryd.func48, Tryd.ntmps48
  go_wp2_with (first
    | (go_at_call 48; (with_reducible refine (C.out).mono ?_); rintro en w2 ⟨rfl, b⟩; have H2 := Lib.hid (HV.out.step b); clear b; clear p0 p1 p2 p3 p4 p5; obtain ⟨p0, p1, p2, p3, p4, p5⟩ := HP.out _ H2)
    | (go_at_call 43; (with_reducible refine (CA.out _).mono ?_); rintro en w' ⟨rfl, rfl⟩))
  go_ret2
  exact ⟨rfl, H2.out.bel⟩
set_option maxRecDepth 100000 in
set_option maxHeartbeats 4000000 in
theorem rv_5ad (s : St) (S : Option Addr) (sn sc : Nat) (hs : s.length = sn) (e : Kx) (a b : Kx) (h : e.l = [a, b]) (hk : e.k = 5) (ho : e.o = 20) (x : Int) (hx : x = 0) (C0 : ∀ (B : Option Addr) (m d : Nat) (X : World), KrR X B d a.l → a.l.length = m → StR X S sc s → Calls Tryd.prog 48 #[.slice S sn sc, kxV a B m d] X fun en w' => en = .returned (apR (some x)) ∧ Below X.heap.size X w') (A : Option Addr) (n c : Nat) (w : World) (R : KrR w A c e.l) (hn : e.l.length = n) (T : StR w S sc s) : Calls Tryd.prog 48 #[.slice S sn sc, kxV e A n c] w fun en w' => en = .returned (apR (some x)) ∧ Below w.heap.size w w' := by
  have o20 : ((e.o : Int) == 20) = true := by rw [ho]; rfl
  have q1 : ((e.k : Int) == 1) = false := by rw [hk]; rfl
  have q2 : ((e.k : Int) == 2) = false := by rw [hk]; rfl
  have q3 : ((e.k : Int) == 3) = false := by rw [hk]; rfl
  have q4 : ((e.k : Int) == 4) = false := by rw [hk]; rfl
  have q6 : ((e.k : Int) == 6) = false := by rw [hk]; rfl
  have hsz : (n : Int) ≤ 9223372036854775807 := by have := R.le; have := R.mx; unfold maxLen at this; omega
  obtain ⟨ad, rfl⟩ := R.some_of h
  have HV := Lib.hid (VS.new (n := n) R T)
  have HB := Lib.hid HV.out.bel
  obtain ⟨p0, p1, p2, p3, p4, p5⟩ := HV.out.box
  have hn0 : (0 : Int) < (n : Int) := by rw [h, List.length_cons] at hn; omega
  obtain ⟨B, m, d, hm, oka, Ra, x0, x1, x2, x3, x4, x5⟩ := HV.out.tr.fst h
  have C := Lib.hid (C0 B m d _ Ra hm HV.out.st)
  have HP := Lib.hid fun X (H : Hid (VS w X e (some ad) n c s S sc)) => H.out.box
  have xx : (x == 0) = true := by rw [hx]; rfl
  clear R T Ra hm oka h hn C0
  clear hk hs hx ho
  unfold apR at *
  dsimp only [kxV, kxC] at *
  go_enter Tryd.func48, Tryd.ntmps48
  go_wp2_with (go_at_call 48; (with_reducible refine (C.out).mono ?_); rintro en w2 ⟨rfl, b⟩; have H2 := Lib.hid (HV.out.step b); clear b; clear p0 p1 p2 p3 p4 p5; obtain ⟨p0, p1, p2, p3, p4, p5⟩ := HP.out _ H2)
  go_ret2
  exact ⟨rfl, H2.out.bel⟩
set_option maxRecDepth 100000 in
set_option maxHeartbeats 4000000 in
theorem rv_5an (s : St) (S : Option Addr) (sn sc : Nat) (hs : s.length = sn) (e : Kx) (a b : Kx) (h : e.l = [a, b]) (hk : e.k = 5) (ho : e.o = 20) (x : Int) (hx : inW x) (hx2 : x ≠ 0) (C0 : ∀ (B : Option Addr) (m d : Nat) (X : World), KrR X B d a.l → a.l.length = m → StR X S sc s → Calls Tryd.prog 48 #[.slice S sn sc, kxV a B m d] X fun en w' => en = .returned (apR (some x)) ∧ Below X.heap.size X w') (D0 : ∀ (B : Option Addr) (m d : Nat) (X : World), KrR X B d b.l → b.l.length = m → StR X S sc s → Calls Tryd.prog 48 #[.slice S sn sc, kxV b B m d] X fun en w' => en = .returned (apR none) ∧ Below X.heap.size X w') (A : Option Addr) (n c : Nat) (w : World) (R : KrR w A c e.l) (hn : e.l.length = n) (T : StR w S sc s) : Calls Tryd.prog 48 #[.slice S sn sc, kxV e A n c] w fun en w' => en = .returned (apR (none)) ∧ Below w.heap.size w w' := by
  have o20 : ((e.o : Int) == 20) = true := by rw [ho]; rfl
  have q1 : ((e.k : Int) == 1) = false := by rw [hk]; rfl
  have q2 : ((e.k : Int) == 2) = false := by rw [hk]; rfl
  have q3 : ((e.k : Int) == 3) = false := by rw [hk]; rfl
  have q4 : ((e.k : Int) == 4) = false := by rw [hk]; rfl
  have q6 : ((e.k : Int) == 6) = false := by rw [hk]; rfl
  have hsz : (n : Int) ≤ 9223372036854775807 := by have := R.le; have := R.mx; unfold maxLen at this; omega
  obtain ⟨ad, rfl⟩ := R.some_of h
  have HV := Lib.hid (VS.new (n := n) R T)
  have HB := Lib.hid HV.out.bel
  obtain ⟨p0, p1, p2, p3, p4, p5⟩ := HV.out.box
  have hn0 : (0 : Int) < (n : Int) := by rw [h, List.length_cons] at hn; omega
  obtain ⟨B, m, d, hm, oka, Ra, x0, x1, x2, x3, x4, x5⟩ := HV.out.tr.fst h
  have C := Lib.hid (C0 B m d _ Ra hm HV.out.st)
  have HP := Lib.hid fun X (H : Hid (VS w X e (some ad) n c s S sc)) => H.out.box
  obtain ⟨B2, m2, d2, hm2, okb, Rb, y0, y1, y2, y3, y4, y5⟩ := R.sec h
  have SB := Lib.hid fun X (H : Hid (VS w X e (some ad) n c s S sc)) => And.intro ((H.out.bel.cell (g_lt y0)).trans y0) (And.intro ((H.out.bel.cell (g_lt y1)).trans y1) (And.intro ((H.out.bel.cell (g_lt y2)).trans y2) (And.intro ((H.out.bel.cell (g_lt y3)).trans y3) (And.intro ((H.out.bel.cell (g_lt y4)).trans y4) ((H.out.bel.cell (g_lt y5)).trans y5)))))
  have CB := Lib.hid fun X (H : Hid (VS w X e (some ad) n c s S sc)) => D0 B2 m2 d2 X (Rb.keep H.out.bel) hm2 H.out.st
  have HP2 := HP
  have xx : (x == 0) = false := by simpa using hx2
  clear y0 y1 y2 y3 y4 y5
  have CB2 := CB
  obtain rfl : n = 2 := by rw [h] at hn; exact hn.symm
  clear R T Ra hm oka h hn C0 D0 Rb hm2 okb hk hs ho hx
  clear hx2
  unfold apR at *
  dsimp only [kxV, kxC] at *
  go_enter Tryd.func48, Tryd.ntmps48
  go_wp2_with (first
    | (go_at_call 48; (with_reducible refine (C.out).mono ?_); rintro en w2 ⟨rfl, b⟩; have H2 := Lib.hid (HV.out.step b); clear b; clear p0 p1 p2 p3 p4 p5; obtain ⟨p0, p1, p2, p3, p4, p5⟩ := HP.out _ H2; obtain ⟨y0, y1, y2, y3, y4, y5⟩ := SB.out _ H2)
    | (go_at_call 48; (with_reducible refine (CB.out _ H2).mono ?_); rintro en w3 ⟨rfl, b⟩; have H3 := Lib.hid (H2.out.step b); clear b; clear p0 p1 p2 p3 p4 p5 y0 y1 y2 y3 y4 y5; obtain ⟨p0, p1, p2, p3, p4, p5⟩ := HP.out _ H3))
  go_ret2
  exact ⟨rfl, H3.out.bel⟩
set_option maxRecDepth 100000 in
set_option maxHeartbeats 4000000 in
theorem rv_5as (s : St) (S : Option Addr) (sn sc : Nat) (hs : s.length = sn) (e : Kx) (a b : Kx) (h : e.l = [a, b]) (hk : e.k = 5) (ho : e.o = 20) (x : Int) (hx : inW x) (hx2 : x ≠ 0) (y : Int) (hy : inW y) (C0 : ∀ (B : Option Addr) (m d : Nat) (X : World), KrR X B d a.l → a.l.length = m → StR X S sc s → Calls Tryd.prog 48 #[.slice S sn sc, kxV a B m d] X fun en w' => en = .returned (apR (some x)) ∧ Below X.heap.size X w') (D0 : ∀ (B : Option Addr) (m d : Nat) (X : World), KrR X B d b.l → b.l.length = m → StR X S sc s → Calls Tryd.prog 48 #[.slice S sn sc, kxV b B m d] X fun en w' => en = .returned (apR (some y)) ∧ Below X.heap.size X w') (A : Option Addr) (n c : Nat) (w : World) (R : KrR w A c e.l) (hn : e.l.length = n) (T : StR w S sc s) : Calls Tryd.prog 48 #[.slice S sn sc, kxV e A n c] w fun en w' => en = .returned (apR (apO e.o x y)) ∧ Below w.heap.size w w' := by
  have o20 : ((e.o : Int) == 20) = true := by rw [ho]; rfl
  have q1 : ((e.k : Int) == 1) = false := by rw [hk]; rfl
  have q2 : ((e.k : Int) == 2) = false := by rw [hk]; rfl
  have q3 : ((e.k : Int) == 3) = false := by rw [hk]; rfl
  have q4 : ((e.k : Int) == 4) = false := by rw [hk]; rfl
  have q6 : ((e.k : Int) == 6) = false := by rw [hk]; rfl
  have hsz : (n : Int) ≤ 9223372036854775807 := by have := R.le; have := R.mx; unfold maxLen at this; omega
  obtain ⟨ad, rfl⟩ := R.some_of h
  have HV := Lib.hid (VS.new (n := n) R T)
  have HB := Lib.hid HV.out.bel
  obtain ⟨p0, p1, p2, p3, p4, p5⟩ := HV.out.box
  have hn0 : (0 : Int) < (n : Int) := by rw [h, List.length_cons] at hn; omega
  obtain ⟨B, m, d, hm, oka, Ra, x0, x1, x2, x3, x4, x5⟩ := HV.out.tr.fst h
  have C := Lib.hid (C0 B m d _ Ra hm HV.out.st)
  have HP := Lib.hid fun X (H : Hid (VS w X e (some ad) n c s S sc)) => H.out.box
  obtain ⟨B2, m2, d2, hm2, okb, Rb, y0, y1, y2, y3, y4, y5⟩ := R.sec h
  have SB := Lib.hid fun X (H : Hid (VS w X e (some ad) n c s S sc)) => And.intro ((H.out.bel.cell (g_lt y0)).trans y0) (And.intro ((H.out.bel.cell (g_lt y1)).trans y1) (And.intro ((H.out.bel.cell (g_lt y2)).trans y2) (And.intro ((H.out.bel.cell (g_lt y3)).trans y3) (And.intro ((H.out.bel.cell (g_lt y4)).trans y4) ((H.out.bel.cell (g_lt y5)).trans y5)))))
  have CB := Lib.hid fun X (H : Hid (VS w X e (some ad) n c s S sc)) => D0 B2 m2 d2 X (Rb.keep H.out.bel) hm2 H.out.st
  have HP2 := HP
  have xx : (x == 0) = false := by simpa using hx2
  clear y0 y1 y2 y3 y4 y5
  have CB2 := CB
  obtain rfl : n = 2 := by rw [h] at hn; exact hn.symm
  have CP := Lib.hid fun X => RApply_any e.o x y hx hy X
  clear R T Ra hm oka h hn C0 D0 Rb hm2 okb hk hs ho hx
  clear hx2
  clear hy
  generalize apO e.o x y = z at *
  unfold ApR apR at *
  dsimp only [kxV, kxC] at *
  go_enter Tryd.func48, Tryd.ntmps48
  go_wp2_with (first
    | (go_at_call 48; (with_reducible refine (C.out).mono ?_); rintro en w2 ⟨rfl, b⟩; have H2 := Lib.hid (HV.out.step b); clear b; clear p0 p1 p2 p3 p4 p5; obtain ⟨p0, p1, p2, p3, p4, p5⟩ := HP.out _ H2; obtain ⟨y0, y1, y2, y3, y4, y5⟩ := SB.out _ H2)
    | (go_at_call 48; (with_reducible refine (CB.out _ H2).mono ?_); rintro en w3 ⟨rfl, b⟩; have H3 := Lib.hid (H2.out.step b); clear b; clear p0 p1 p2 p3 p4 p5 y0 y1 y2 y3 y4 y5; obtain ⟨p0, p1, p2, p3, p4, p5⟩ := HP.out _ H3)
    | (go_at_call 70; (with_reducible refine (CP.out _).mono ?_); rintro en w4 ⟨rfl, b⟩; have H4 := Lib.hid (H3.out.step b); clear b))
  go_ret2
  exact ⟨rfl, H4.out.bel⟩
set_option maxRecDepth 100000 in
set_option maxHeartbeats 4000000 in
theorem rv_5od (s : St) (S : Option Addr) (sn sc : Nat) (hs : s.length = sn) (e : Kx) (a b : Kx) (h : e.l = [a, b]) (hk : e.k = 5) (ho : e.o = 21) (x : Int) (hx : x = 1) (C0 : ∀ (B : Option Addr) (m d : Nat) (X : World), KrR X B d a.l → a.l.length = m → StR X S sc s → Calls Tryd.prog 48 #[.slice S sn sc, kxV a B m d] X fun en w' => en = .returned (apR (some x)) ∧ Below X.heap.size X w') (A : Option Addr) (n c : Nat) (w : World) (R : KrR w A c e.l) (hn : e.l.length = n) (T : StR w S sc s) : Calls Tryd.prog 48 #[.slice S sn sc, kxV e A n c] w fun en w' => en = .returned (apR (some x)) ∧ Below w.heap.size w w' := by
  have o20 : ((e.o : Int) == 20) = false := by rw [ho]; rfl
  have o21 : ((e.o : Int) == 21) = true := by rw [ho]; rfl
  have q1 : ((e.k : Int) == 1) = false := by rw [hk]; rfl
  have q2 : ((e.k : Int) == 2) = false := by rw [hk]; rfl
  have q3 : ((e.k : Int) == 3) = false := by rw [hk]; rfl
  have q4 : ((e.k : Int) == 4) = false := by rw [hk]; rfl
  have q6 : ((e.k : Int) == 6) = false := by rw [hk]; rfl
  have hsz : (n : Int) ≤ 9223372036854775807 := by have := R.le; have := R.mx; unfold maxLen at this; omega
  obtain ⟨ad, rfl⟩ := R.some_of h
  have HV := Lib.hid (VS.new (n := n) R T)
  have HB := Lib.hid HV.out.bel
  obtain ⟨p0, p1, p2, p3, p4, p5⟩ := HV.out.box
  have hn0 : (0 : Int) < (n : Int) := by rw [h, List.length_cons] at hn; omega
  obtain ⟨B, m, d, hm, oka, Ra, x0, x1, x2, x3, x4, x5⟩ := HV.out.tr.fst h
  have C := Lib.hid (C0 B m d _ Ra hm HV.out.st)
  have HP := Lib.hid fun X (H : Hid (VS w X e (some ad) n c s S sc)) => H.out.box
  have xx : (x == 1) = true := by rw [hx]; rfl
  clear R T Ra hm oka h hn C0
  clear hk hs hx ho
  unfold apR at *
  dsimp only [kxV, kxC] at *
  go_enter Tryd.func48, Tryd.ntmps48
  go_wp2_with (go_at_call 48; (with_reducible refine (C.out).mono ?_); rintro en w2 ⟨rfl, b⟩; have H2 := Lib.hid (HV.out.step b); clear b; clear p0 p1 p2 p3 p4 p5; obtain ⟨p0, p1, p2, p3, p4, p5⟩ := HP.out _ H2)
  go_ret2
  exact ⟨rfl, H2.out.bel⟩
set_option maxRecDepth 100000 in
set_option maxHeartbeats 4000000 in
theorem rv_5on (s : St) (S : Option Addr) (sn sc : Nat) (hs : s.length = sn) (e : Kx) (a b : Kx) (h : e.l = [a, b]) (hk : e.k = 5) (ho : e.o = 21) (x : Int) (hx : inW x) (hx2 : x ≠ 1) (C0 : ∀ (B : Option Addr) (m d : Nat) (X : World), KrR X B d a.l → a.l.length = m → StR X S sc s → Calls Tryd.prog 48 #[.slice S sn sc, kxV a B m d] X fun en w' => en = .returned (apR (some x)) ∧ Below X.heap.size X w') (D0 : ∀ (B : Option Addr) (m d : Nat) (X : World), KrR X B d b.l → b.l.length = m → StR X S sc s → Calls Tryd.prog 48 #[.slice S sn sc, kxV b B m d] X fun en w' => en = .returned (apR none) ∧ Below X.heap.size X w') (A : Option Addr) (n c : Nat) (w : World) (R : KrR w A c e.l) (hn : e.l.length = n) (T : StR w S sc s) : Calls Tryd.prog 48 #[.slice S sn sc, kxV e A n c] w fun en w' => en = .returned (apR (none)) ∧ Below w.heap.size w w' := by
  have o20 : ((e.o : Int) == 20) = false := by rw [ho]; rfl
  have o21 : ((e.o : Int) == 21) = true := by rw [ho]; rfl
  have q1 : ((e.k : Int) == 1) = false := by rw [hk]; rfl
  have q2 : ((e.k : Int) == 2) = false := by rw [hk]; rfl
  have q3 : ((e.k : Int) == 3) = false := by rw [hk]; rfl
  have q4 : ((e.k : Int) == 4) = false := by rw [hk]; rfl
  have q6 : ((e.k : Int) == 6) = false := by rw [hk]; rfl
  have hsz : (n : Int) ≤ 9223372036854775807 := by have := R.le; have := R.mx; unfold maxLen at this; omega
  obtain ⟨ad, rfl⟩ := R.some_of h
  have HV := Lib.hid (VS.new (n := n) R T)
  have HB := Lib.hid HV.out.bel
  obtain ⟨p0, p1, p2, p3, p4, p5⟩ := HV.out.box
  have hn0 : (0 : Int) < (n : Int) := by rw [h, List.length_cons] at hn; omega
  obtain ⟨B, m, d, hm, oka, Ra, x0, x1, x2, x3, x4, x5⟩ := HV.out.tr.fst h
  have C := Lib.hid (C0 B m d _ Ra hm HV.out.st)
  have HP := Lib.hid fun X (H : Hid (VS w X e (some ad) n c s S sc)) => H.out.box
  obtain ⟨B2, m2, d2, hm2, okb, Rb, y0, y1, y2, y3, y4, y5⟩ := R.sec h
  have SB := Lib.hid fun X (H : Hid (VS w X e (some ad) n c s S sc)) => And.intro ((H.out.bel.cell (g_lt y0)).trans y0) (And.intro ((H.out.bel.cell (g_lt y1)).trans y1) (And.intro ((H.out.bel.cell (g_lt y2)).trans y2) (And.intro ((H.out.bel.cell (g_lt y3)).trans y3) (And.intro ((H.out.bel.cell (g_lt y4)).trans y4) ((H.out.bel.cell (g_lt y5)).trans y5)))))
  have CB := Lib.hid fun X (H : Hid (VS w X e (some ad) n c s S sc)) => D0 B2 m2 d2 X (Rb.keep H.out.bel) hm2 H.out.st
  have HP2 := HP
  have xx : (x == 1) = false := by simpa using hx2
  clear y0 y1 y2 y3 y4 y5
  have CB2 := CB
  obtain rfl : n = 2 := by rw [h] at hn; exact hn.symm
  clear R T Ra hm oka h hn C0 D0 Rb hm2 okb hk hs ho hx
  clear hx2
  unfold apR at *
  dsimp only [kxV, kxC] at *
  go_enter Tryd.func48, Tryd.ntmps48
  go_wp2_with (first
    | (go_at_call 48; (with_reducible refine (C.out).mono ?_); rintro en w2 ⟨rfl, b⟩; have H2 := Lib.hid (HV.out.step b); clear b; clear p0 p1 p2 p3 p4 p5; obtain ⟨p0, p1, p2, p3, p4, p5⟩ := HP.out _ H2; obtain ⟨y0, y1, y2, y3, y4, y5⟩ := SB.out _ H2)
    | (go_at_call 48; (with_reducible refine (CB.out _ H2).mono ?_); rintro en w3 ⟨rfl, b⟩; have H3 := Lib.hid (H2.out.step b); clear b; clear p0 p1 p2 p3 p4 p5 y0 y1 y2 y3 y4 y5; obtain ⟨p0, p1, p2, p3, p4, p5⟩ := HP.out _ H3))
  go_ret2
  exact ⟨rfl, H3.out.bel⟩
set_option maxRecDepth 100000 in
set_option maxHeartbeats 4000000 in
theorem rv_5os (s : St) (S : Option Addr) (sn sc : Nat) (hs : s.length = sn) (e : Kx) (a b : Kx) (h : e.l = [a, b]) (hk : e.k = 5) (ho : e.o = 21) (x : Int) (hx : inW x) (hx2 : x ≠ 1) (y : Int) (hy : inW y) (C0 : ∀ (B : Option Addr) (m d : Nat) (X : World), KrR X B d a.l → a.l.length = m → StR X S sc s → Calls Tryd.prog 48 #[.slice S sn sc, kxV a B m d] X fun en w' => en = .returned (apR (some x)) ∧ Below X.heap.size X w') (D0 : ∀ (B : Option Addr) (m d : Nat) (X : World), KrR X B d b.l → b.l.length = m → StR X S sc s → Calls Tryd.prog 48 #[.slice S sn sc, kxV b B m d] X fun en w' => en = .returned (apR (some y)) ∧ Below X.heap.size X w') (A : Option Addr) (n c : Nat) (w : World) (R : KrR w A c e.l) (hn : e.l.length = n) (T : StR w S sc s) : Calls Tryd.prog 48 #[.slice S sn sc, kxV e A n c] w fun en w' => en = .returned (apR (apO e.o x y)) ∧ Below w.heap.size w w' := by
  have o20 : ((e.o : Int) == 20) = false := by rw [ho]; rfl
  have o21 : ((e.o : Int) == 21) = true := by rw [ho]; rfl
  have q1 : ((e.k : Int) == 1) = false := by rw [hk]; rfl
  have q2 : ((e.k : Int) == 2) = false := by rw [hk]; rfl
  have q3 : ((e.k : Int) == 3) = false := by rw [hk]; rfl
  have q4 : ((e.k : Int) == 4) = false := by rw [hk]; rfl
  have q6 : ((e.k : Int) == 6) = false := by rw [hk]; rfl
  have hsz : (n : Int) ≤ 9223372036854775807 := by have := R.le; have := R.mx; unfold maxLen at this; omega
  obtain ⟨ad, rfl⟩ := R.some_of h
  have HV := Lib.hid (VS.new (n := n) R T)
  have HB := Lib.hid HV.out.bel
  obtain ⟨p0, p1, p2, p3, p4, p5⟩ := HV.out.box
  have hn0 : (0 : Int) < (n : Int) := by rw [h, List.length_cons] at hn; omega
  obtain ⟨B, m, d, hm, oka, Ra, x0, x1, x2, x3, x4, x5⟩ := HV.out.tr.fst h
  have C := Lib.hid (C0 B m d _ Ra hm HV.out.st)
  have HP := Lib.hid fun X (H : Hid (VS w X e (some ad) n c s S sc)) => H.out.box
  obtain ⟨B2, m2, d2, hm2, okb, Rb, y0, y1, y2, y3, y4, y5⟩ := R.sec h
  have SB := Lib.hid fun X (H : Hid (VS w X e (some ad) n c s S sc)) => And.intro ((H.out.bel.cell (g_lt y0)).trans y0) (And.intro ((H.out.bel.cell (g_lt y1)).trans y1) (And.intro ((H.out.bel.cell (g_lt y2)).trans y2) (And.intro ((H.out.bel.cell (g_lt y3)).trans y3) (And.intro ((H.out.bel.cell (g_lt y4)).trans y4) ((H.out.bel.cell (g_lt y5)).trans y5)))))
  have CB := Lib.hid fun X (H : Hid (VS w X e (some ad) n c s S sc)) => D0 B2 m2 d2 X (Rb.keep H.out.bel) hm2 H.out.st
  have HP2 := HP
  have xx : (x == 1) = false := by simpa using hx2
  clear y0 y1 y2 y3 y4 y5
  have CB2 := CB
  obtain rfl : n = 2 := by rw [h] at hn; exact hn.symm
  have CP := Lib.hid fun X => RApply_any e.o x y hx hy X
  clear R T Ra hm oka h hn C0 D0 Rb hm2 okb hk hs ho hx
  clear hx2
  clear hy
  generalize apO e.o x y = z at *
  unfold ApR apR at *
  dsimp only [kxV, kxC] at *
  go_enter Tryd.func48, Tryd.ntmps48
  go_wp2_with (first
    | (go_at_call 48; (with_reducible refine (C.out).mono ?_); rintro en w2 ⟨rfl, b⟩; have H2 := Lib.hid (HV.out.step b); clear b; clear p0 p1 p2 p3 p4 p5; obtain ⟨p0, p1, p2, p3, p4, p5⟩ := HP.out _ H2; obtain ⟨y0, y1, y2, y3, y4, y5⟩ := SB.out _ H2)
    | (go_at_call 48; (with_reducible refine (CB.out _ H2).mono ?_); rintro en w3 ⟨rfl, b⟩; have H3 := Lib.hid (H2.out.step b); clear b; clear p0 p1 p2 p3 p4 p5 y0 y1 y2 y3 y4 y5; obtain ⟨p0, p1, p2, p3, p4, p5⟩ := HP.out _ H3)
    | (go_at_call 70; (with_reducible refine (CP.out _).mono ?_); rintro en w4 ⟨rfl, b⟩; have H4 := Lib.hid (H3.out.step b); clear b))
  go_ret2
  exact ⟨rfl, H4.out.bel⟩
set_option maxRecDepth 100000 in
set_option maxHeartbeats 4000000 in
theorem rv_5xn (s : St) (S : Option Addr) (sn sc : Nat) (hs : s.length = sn) (e : Kx) (a b : Kx) (h : e.l = [a, b]) (hk : e.k = 5) (ho : e.o ≠ 20 ∧ e.o ≠ 21) (x : Int) (hx : inW x)  (C0 : ∀ (B : Option Addr) (m d : Nat) (X : World), KrR X B d a.l → a.l.length = m → StR X S sc s → Calls Tryd.prog 48 #[.slice S sn sc, kxV a B m d] X fun en w' => en = .returned (apR (some x)) ∧ Below X.heap.size X w') (D0 : ∀ (B : Option Addr) (m d : Nat) (X : World), KrR X B d b.l → b.l.length = m → StR X S sc s → Calls Tryd.prog 48 #[.slice S sn sc, kxV b B m d] X fun en w' => en = .returned (apR none) ∧ Below X.heap.size X w') (A : Option Addr) (n c : Nat) (w : World) (R : KrR w A c e.l) (hn : e.l.length = n) (T : StR w S sc s) : Calls Tryd.prog 48 #[.slice S sn sc, kxV e A n c] w fun en w' => en = .returned (apR (none)) ∧ Below w.heap.size w w' := by
  have o20 : ((e.o : Int) == 20) = false := by simp; omega
  have o21 : ((e.o : Int) == 21) = false := by simp; omega
  have q1 : ((e.k : Int) == 1) = false := by rw [hk]; rfl
  have q2 : ((e.k : Int) == 2) = false := by rw [hk]; rfl
  have q3 : ((e.k : Int) == 3) = false := by rw [hk]; rfl
  have q4 : ((e.k : Int) == 4) = false := by rw [hk]; rfl
  have q6 : ((e.k : Int) == 6) = false := by rw [hk]; rfl
  have hsz : (n : Int) ≤ 9223372036854775807 := by have := R.le; have := R.mx; unfold maxLen at this; omega
  obtain ⟨ad, rfl⟩ := R.some_of h
  have HV := Lib.hid (VS.new (n := n) R T)
  have HB := Lib.hid HV.out.bel
  obtain ⟨p0, p1, p2, p3, p4, p5⟩ := HV.out.box
  have hn0 : (0 : Int) < (n : Int) := by rw [h, List.length_cons] at hn; omega
  obtain ⟨B, m, d, hm, oka, Ra, x0, x1, x2, x3, x4, x5⟩ := HV.out.tr.fst h
  have C := Lib.hid (C0 B m d _ Ra hm HV.out.st)
  have HP := Lib.hid fun X (H : Hid (VS w X e (some ad) n c s S sc)) => H.out.box
  obtain ⟨B2, m2, d2, hm2, okb, Rb, y0, y1, y2, y3, y4, y5⟩ := R.sec h
  have SB := Lib.hid fun X (H : Hid (VS w X e (some ad) n c s S sc)) => And.intro ((H.out.bel.cell (g_lt y0)).trans y0) (And.intro ((H.out.bel.cell (g_lt y1)).trans y1) (And.intro ((H.out.bel.cell (g_lt y2)).trans y2) (And.intro ((H.out.bel.cell (g_lt y3)).trans y3) (And.intro ((H.out.bel.cell (g_lt y4)).trans y4) ((H.out.bel.cell (g_lt y5)).trans y5)))))
  have CB := Lib.hid fun X (H : Hid (VS w X e (some ad) n c s S sc)) => D0 B2 m2 d2 X (Rb.keep H.out.bel) hm2 H.out.st
  have HP2 := HP
  clear y0 y1 y2 y3 y4 y5
  have CB2 := CB
  obtain rfl : n = 2 := by rw [h] at hn; exact hn.symm
  clear R T Ra hm oka h hn C0 D0 Rb hm2 okb hk hs ho hx
  unfold apR at *
  dsimp only [kxV, kxC] at *
  go_enter Tryd.func48, Tryd.ntmps48
  go_wp2_with (first
    | (go_at_call 48; (with_reducible refine (C.out).mono ?_); rintro en w2 ⟨rfl, b⟩; have H2 := Lib.hid (HV.out.step b); clear b; clear p0 p1 p2 p3 p4 p5; obtain ⟨p0, p1, p2, p3, p4, p5⟩ := HP.out _ H2; obtain ⟨y0, y1, y2, y3, y4, y5⟩ := SB.out _ H2)
    | (go_at_call 48; (with_reducible refine (CB.out _ H2).mono ?_); rintro en w3 ⟨rfl, b⟩; have H3 := Lib.hid (H2.out.step b); clear b; clear p0 p1 p2 p3 p4 p5 y0 y1 y2 y3 y4 y5; obtain ⟨p0, p1, p2, p3, p4, p5⟩ := HP.out _ H3))
  go_ret2
  exact ⟨rfl, H3.out.bel⟩
set_option maxRecDepth 100000 in
set_option maxHeartbeats 4000000 in
theorem rv_5xs (s : St) (S : Option Addr) (sn sc : Nat) (hs : s.length = sn) (e : Kx) (a b : Kx) (h : e.l = [a, b]) (hk : e.k = 5) (ho : e.o ≠ 20 ∧ e.o ≠ 21) (x : Int) (hx : inW x)  (y : Int) (hy : inW y) (C0 : ∀ (B : Option Addr) (m d : Nat) (X : World), KrR X B d a.l → a.l.length = m → StR X S sc s → Calls Tryd.prog 48 #[.slice S sn sc, kxV a B m d] X fun en w' => en = .returned (apR (some x)) ∧ Below X.heap.size X w') (D0 : ∀ (B : Option Addr) (m d : Nat) (X : World), KrR X B d b.l → b.l.length = m → StR X S sc s → Calls Tryd.prog 48 #[.slice S sn sc, kxV b B m d] X fun en w' => en = .returned (apR (some y)) ∧ Below X.heap.size X w') (A : Option Addr) (n c : Nat) (w : World) (R : KrR w A c e.l) (hn : e.l.length = n) (T : StR w S sc s) : Calls Tryd.prog 48 #[.slice S sn sc, kxV e A n c] w fun en w' => en = .returned (apR (apO e.o x y)) ∧ Below w.heap.size w w' := by
  have o20 : ((e.o : Int) == 20) = false := by simp; omega
  have o21 : ((e.o : Int) == 21) = false := by simp; omega
  have q1 : ((e.k : Int) == 1) = false := by rw [hk]; rfl
  have q2 : ((e.k : Int) == 2) = false := by rw [hk]; rfl
  have q3 : ((e.k : Int) == 3) = false := by rw [hk]; rfl
  have q4 : ((e.k : Int) == 4) = false := by rw [hk]; rfl
  have q6 : ((e.k : Int) == 6) = false := by rw [hk]; rfl
  have hsz : (n : Int) ≤ 9223372036854775807 := by have := R.le; have := R.mx; unfold maxLen at this; omega
  obtain ⟨ad, rfl⟩ := R.some_of h
  have HV := Lib.hid (VS.new (n := n) R T)
  have HB := Lib.hid HV.out.bel
  obtain ⟨p0, p1, p2, p3, p4, p5⟩ := HV.out.box
  have hn0 : (0 : Int) < (n : Int) := by rw [h, List.length_cons] at hn; omega
  obtain ⟨B, m, d, hm, oka, Ra, x0, x1, x2, x3, x4, x5⟩ := HV.out.tr.fst h
  have C := Lib.hid (C0 B m d _ Ra hm HV.out.st)
  have HP := Lib.hid fun X (H : Hid (VS w X e (some ad) n c s S sc)) => H.out.box
  obtain ⟨B2, m2, d2, hm2, okb, Rb, y0, y1, y2, y3, y4, y5⟩ := R.sec h
  have SB := Lib.hid fun X (H : Hid (VS w X e (some ad) n c s S sc)) => And.intro ((H.out.bel.cell (g_lt y0)).trans y0) (And.intro ((H.out.bel.cell (g_lt y1)).trans y1) (And.intro ((H.out.bel.cell (g_lt y2)).trans y2) (And.intro ((H.out.bel.cell (g_lt y3)).trans y3) (And.intro ((H.out.bel.cell (g_lt y4)).trans y4) ((H.out.bel.cell (g_lt y5)).trans y5)))))
  have CB := Lib.hid fun X (H : Hid (VS w X e (some ad) n c s S sc)) => D0 B2 m2 d2 X (Rb.keep H.out.bel) hm2 H.out.st
  have HP2 := HP
  clear y0 y1 y2 y3 y4 y5
  have CB2 := CB
  obtain rfl : n = 2 := by rw [h] at hn; exact hn.symm
  have CP := Lib.hid fun X => RApply_any e.o x y hx hy X
  clear R T Ra hm oka h hn C0 D0 Rb hm2 okb hk hs ho hx
  clear hy
  generalize apO e.o x y = z at *
  unfold ApR apR at *
  dsimp only [kxV, kxC] at *
  go_enter Tryd.func48, Tryd.ntmps48
  go_wp2_with (first
    | (go_at_call 48; (with_reducible refine (C.out).mono ?_); rintro en w2 ⟨rfl, b⟩; have H2 := Lib.hid (HV.out.step b); clear b; clear p0 p1 p2 p3 p4 p5; obtain ⟨p0, p1, p2, p3, p4, p5⟩ := HP.out _ H2; obtain ⟨y0, y1, y2, y3, y4, y5⟩ := SB.out _ H2)
    | (go_at_call 48; (with_reducible refine (CB.out _ H2).mono ?_); rintro en w3 ⟨rfl, b⟩; have H3 := Lib.hid (H2.out.step b); clear b; clear p0 p1 p2 p3 p4 p5 y0 y1 y2 y3 y4 y5; obtain ⟨p0, p1, p2, p3, p4, p5⟩ := HP.out _ H3)
    | (go_at_call 70; (with_reducible refine (CP.out _).mono ?_); rintro en w4 ⟨rfl, b⟩; have H4 := Lib.hid (H3.out.step b); clear b))
  go_ret2
  exact ⟨rfl, H4.out.bel⟩
theorem RVal_any (s : St) (S : Option Addr) (sn sc : Nat) (hs : s.length = sn) (hw : stW s) : ∀ e : Kx, okX e = true → OKk e → ∀ (A : Option Addr) (n c : Nat) (w : World), KrR w A c e.l → e.l.length = n → StR w S sc s → Calls Tryd.prog 48 #[.slice S sn sc, kxV e A n c] w fun en w' => en = .returned (apR (vlX s e)) ∧ Below w.heap.size w w' := by
  refine Kx.ind fun e ih ok hok A n c w R hn T => ?_
  have hko : e.o < 256 := hok.2.1
  have vw : ∀ x : Kx, x ∈ e.l → okX x = true → ∀ v, vlX s x = some v → inW v := fun x h1 h2 v h => vl_w hw x h2 (wn_mem R.wn h1) v h
  rcases shape3 ok with ⟨h, hk⟩ | ⟨a, h, hk, oa⟩ | ⟨a, b, h, hk, oa, ob⟩
  · rcases hk with hk | hk
    · rw [vl_1 s hk]; exact rv_1 s S sn sc hs e hk A n c w R hn T
    · rw [vl_2 s hk]; exact rv_2 s S sn sc hs e hk A n c w R hn T
  · have ma : a ∈ e.l := by rw [h]; exact List.mem_cons_self ..
    have ga : e.l.getD 0 k0 = a := by rw [h]; rfl
    have hl : 0 < e.l.length := by rw [h]; simp
    have hoa := R.okp ma
    cases hv : vlX s a with
    | none =>
      rw [vl_none s (by omega) (by omega) hl (by rw [ga]; exact hv)]
      exact rv_none s S sn sc hs e a [] h (by omega) (by omega) (fun B m d X R hm T => by have := ih a ma oa hoa B m d X R hm T; rwa [hv] at this) A n c w R hn T
    | some x =>
      have hx := vw a ma oa x hv
      have C : ∀ (B : Option Addr) (m d : Nat) (X : World), KrR X B d a.l → a.l.length = m → StR X S sc s → Calls Tryd.prog 48 #[.slice S sn sc, kxV a B m d] X fun en w' => en = .returned (apR (some x)) ∧ Below X.heap.size X w' := fun B m d X R hm T => by have := ih a ma oa hoa B m d X R hm T; rwa [hv] at this
      rcases hk with hk | hk | hk
      · rw [vl_3 s hk hl (by rw [ga]; exact hv)]; exact rv_3 s S sn sc hs e a [] h hk x hx C A n c w R hn T
      · rw [vl_4 s hk hl (by rw [ga]; exact hv)]; exact rv_4 s S sn sc hs e a [] h hk x hx C A n c w R hn T
      · rw [vl_6 s hk hl (by rw [ga]; exact hv)]; exact rv_6 s S sn sc hs e a [] h hk x hx C A n c w R hn T
  · have ma : a ∈ e.l := by rw [h]; exact List.mem_cons_self ..
    have mb : b ∈ e.l := by rw [h]; exact List.mem_cons_of_mem _ (List.mem_cons_self ..)
    have ga : e.l.getD 0 k0 = a := by rw [h]; rfl
    have gb : e.l.getD 1 k0 = b := by rw [h]; rfl
    have hl : 1 < e.l.length := by rw [h]; simp
    have hoa := R.okp ma
    have hob := R.okp mb
    cases hv : vlX s a with
    | none =>
      rw [vl_none s (by omega) (by omega) (by omega) (by rw [ga]; exact hv)]
      exact rv_none s S sn sc hs e a [b] h (by omega) (by omega) (fun B m d X R hm T => by have := ih a ma oa hoa B m d X R hm T; rwa [hv] at this) A n c w R hn T
    | some x =>
      have hx := vw a ma oa x hv
      have C : ∀ (B : Option Addr) (m d : Nat) (X : World), KrR X B d a.l → a.l.length = m → StR X S sc s → Calls Tryd.prog 48 #[.slice S sn sc, kxV a B m d] X fun en w' => en = .returned (apR (some x)) ∧ Below X.heap.size X w' := fun B m d X R hm T => by have := ih a ma oa hoa B m d X R hm T; rwa [hv] at this
      have D : ∀ (B : Option Addr) (m d : Nat) (X : World), KrR X B d b.l → b.l.length = m → StR X S sc s → Calls Tryd.prog 48 #[.slice S sn sc, kxV b B m d] X fun en w' => en = .returned (apR (vlX s b)) ∧ Below X.heap.size X w' := fun B m d X R hm T => ih b mb ob hob B m d X R hm T
      cases hd : decO e.o x with
      | true =>
        rw [vl_5d s hk (by omega) (by rw [ga]; exact hv) hd]
        have hd2 := (decO_iff _ _).1 hd
        rcases hd2 with ⟨ho, h0⟩ | ⟨ho, h0⟩
        · exact rv_5ad s S sn sc hs e a b h hk ho x h0 C A n c w R hn T
        · exact rv_5od s S sn sc hs e a b h hk ho x h0 C A n c w R hn T
      | false =>
        cases hb : vlX s b with
        | none =>
          rw [hb] at D
          rw [vl_5n s hk hl (by rw [ga]; exact hv) hd (by rw [gb]; exact hb)]
          by_cases ho : e.o = 20
          · exact rv_5an s S sn sc hs e a b h hk ho x hx (fun h0 => decO_no hd (.inl ⟨ho, h0⟩)) C D A n c w R hn T
          · by_cases ho2 : e.o = 21
            · exact rv_5on s S sn sc hs e a b h hk ho2 x hx (fun h0 => decO_no hd (.inr ⟨ho2, h0⟩)) C D A n c w R hn T
            · exact rv_5xn s S sn sc hs e a b h hk ⟨ho, ho2⟩ x hx C D A n c w R hn T
        | some y =>
          have hy := vw b mb ob y hb
          rw [hb] at D
          rw [vl_5 s hk hl (by rw [ga]; exact hv) hd (by rw [gb]; exact hb)]
          by_cases ho : e.o = 20
          · exact rv_5as s S sn sc hs e a b h hk ho x hx (fun h0 => decO_no hd (.inl ⟨ho, h0⟩)) y hy C D A n c w R hn T
          · by_cases ho2 : e.o = 21
            · exact rv_5os s S sn sc hs e a b h hk ho2 x hx (fun h0 => decO_no hd (.inr ⟨ho2, h0⟩)) y hy C D A n c w R hn T
            · exact rv_5xs s S sn sc hs e a b h hk ⟨ho, ho2⟩ x hx y hy C D A n c w R hn T
end Go.Proofs.YtblckajejohlbaaDoor
