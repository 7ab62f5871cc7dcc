/- The laws' examples: awake. -/
import Derived.BigGuard
import Derived.Lib.LaidTab
import Derived.Stop.LaidErr
import Derived.LaidMore
import Derived.Deep.Slices
import Derived.ChangeSame
import Derived.SizedLaws
import Derived.Test.YtblckajejohlbaaDoorM09
import Derived.Test.YtblckajejohlbaaDoorRows
set_option linter.unusedVariables false
set_option linter.unusedSimpArgs false
set_option linter.unusedVariables false
set_option linter.unusedSimpArgs false
namespace Go.Proofs.YtblckajejohlbaaDoor
open Go Go.RowKit L8 L22 L17
open L14 (inW)

abbrev xK : Array Value := #[.int .u8 2, .int .u8 0, .int .u8 0, .int .i32 0, .int .i64 0, .slice none 0 0]
abbrev zK : Array Value := #[.int .u8 0, .int .u8 0, .int .u8 0, .int .i32 0, .int .i64 0, .slice none 0 0]
abbrev iK (N : Option Addr) (c : Nat) : Array Value := #[.int .u8 5, .int .u8 14, .int .u8 0, .int .i32 0, .int .i64 0, .slice N 2 c]
/-- On the way through the examples: the store, x. -/
structure Aw2 (w X : World) (g a : Nat) : Prop where
  b : Below w.heap.size w X
  t : T17 X
  s : StR X (some ⟨g, 0, none⟩) 2 s0X
  x : BoxS X a 45 xK
theorem Aw2.step {w X Y : World} {g a : Nat} (h : Aw2 w X g a) (b : Below X.heap.size X Y) : Aw2 w Y g a := ⟨blw h.b b, h.t.below b, h.s.keep b, h.x.below b⟩
/-- .. and inner. -/
structure Aw3 (w X : World) (g a i : Nat) (N : Option Addr) (c : Nat) : Prop where
  h : Aw2 w X g a
  i : BoxS X i 45 (iK N c)
  r : KrR X N c inX.l
theorem Aw3.step {w X Y : World} {g a i : Nat} {N : Option Addr} {c : Nat} (h : Aw3 w X g a i N c) (b : Below X.heap.size X Y) : Aw3 w Y g a i N c := ⟨h.h.step b, h.i.below b, h.r.keep b⟩
theorem Aw3.cells {w X : World} {g a i : Nat} {N : Option Addr} {c : Nat} (h : Aw3 w X g a i N c) : (X.cell? ⟨a, 0, none⟩ = some (.int .u8 2) ∧ X.cell? ⟨a, 1, none⟩ = some (.int .u8 0) ∧ X.cell? ⟨a, 2, none⟩ = some (.int .u8 0) ∧ X.cell? ⟨a, 3, none⟩ = some (.int .i32 0) ∧ X.cell? ⟨a, 4, none⟩ = some (.int .i64 0) ∧ X.cell? ⟨a, 5, none⟩ = some (.slice none 0 0)) ∧
    (X.cell? ⟨i, 0, none⟩ = some (.int .u8 5) ∧ X.cell? ⟨i, 1, none⟩ = some (.int .u8 14) ∧ X.cell? ⟨i, 2, none⟩ = some (.int .u8 0) ∧ X.cell? ⟨i, 3, none⟩ = some (.int .i32 0) ∧ X.cell? ⟨i, 4, none⟩ = some (.int .i64 0) ∧ X.cell? ⟨i, 5, none⟩ = some (.slice N 2 c)) := ⟨box6 h.h.x, box6 h.i⟩
/-- .. since a world on the way. -/
structure Aw4 (w V X : World) (g a i : Nat) (N : Option Addr) (c : Nat) : Prop where
  h : Aw3 w X g a i N c
  v : Below V.heap.size V X
theorem Aw4.step {w V X Y : World} {g a i : Nat} {N : Option Addr} {c : Nat} (h : Aw4 w V X g a i N c) (b : Below X.heap.size X Y) : Aw4 w V Y g a i N c := ⟨h.h.step b, blw h.v b⟩
/-- At the end: a store, variables, their kernel. -/
structure Aw5 (w X : World) (A : Option Addr) (d v z : Nat) : Prop where
  b : Below w.heap.size w X
  s : StR X A d [[5, 9, 7]]
  r : VaR X (some ⟨v, 0, none⟩) 2 vsX
  k : BoxS X z 37 (kzC (some ⟨v, 0, none⟩) 2 2)
theorem Aw5.step {w X Y : World} {A : Option Addr} {d v z : Nat} (h : Aw5 w X A d v z) (b : Below X.heap.size X Y) : Aw5 w Y A d v z := ⟨blw h.b b, h.s.keep b, h.r.keep b, h.k.below b⟩
theorem Aw5.c {w X : World} {A : Option Addr} {d v z : Nat} (h : Aw5 w X A d v z) : X.cell? ⟨z, 0, none⟩ = some (.slice (some ⟨v, 0, none⟩) 2 2) ∧ X.cell? ⟨z, 1, none⟩ = some (.slice none 0 0) ∧ X.cell? ⟨z, 2, none⟩ = some (.int .u8 0) ∧ X.cell? ⟨z, 3, none⟩ = some (.int .i64 0) ∧ X.cell? ⟨z, 4, none⟩ = some (.int .i64 0) ∧ X.cell? ⟨z, 5, none⟩ = some (.int .u8 0) ∧ X.cell? ⟨z, 6, none⟩ = some (.slice none 0 0) ∧ X.cell? ⟨z, 7, none⟩ = some (.slice none 0 0) ∧ X.cell? ⟨z, 8, none⟩ = some (.slice none 0 0) ∧ X.cell? ⟨z, 9, none⟩ = some (.slice none 0 0) ∧ X.cell? ⟨z, 10, none⟩ = some (.slice none 0 0) :=
  ⟨(h.k.cell 0).trans rfl, (h.k.cell 1).trans rfl, (h.k.cell 2).trans rfl, (h.k.cell 3).trans rfl, (h.k.cell 4).trans rfl, (h.k.cell 5).trans rfl, (h.k.cell 6).trans rfl, (h.k.cell 7).trans rfl, (h.k.cell 8).trans rfl, (h.k.cell 9).trans rfl, (h.k.cell 10).trans rfl⟩
/-- In the region that makes inner, begun at V: its box may be there already. -/
structure IS (V X : World) (Q : Option Nat) : Prop where
  b : Below V.heap.size V X
  q : ∀ k, Q = some k → BoxS X k 45 zK ∧ V.heap.size ≤ k
theorem IS.step {V X Y : World} {Q : Option Nat} (h : IS V X Q) (b : Below X.heap.size X Y) : IS V Y Q := ⟨blw h.b b, fun k e => ⟨(h.q k e).1.below b, (h.q k e).2⟩⟩
theorem IS.al {V X : World} (h : IS V X none) : IS V (X.alloc (.cells zK 45)) (some X.heap.size) := ⟨bal h.b _, fun k e => by
  obtain rfl := Option.some.inj e
  exact ⟨boxS_new X _ _, h.b.size⟩⟩
theorem KrN.al {X : World} {A : Option Addr} {c : Nat} {l : List Kx} (h : KrN X (fun k => some k ≠ (none : Option Nat)) A c l) (o : Obj) : KrN (X.alloc o) (fun k => some k ≠ some X.heap.size) A c l :=
  (h.tr.toN (N := fun k => some k ≠ some X.heap.size) (fun k hk e => by injection e with e; omega)).keep (bal (b0 X) _)
theorem KrN.prN {W : World} {N : Nat → Prop} {g d e : Nat} {t : TypeId} {y z : Kx} {B C : Option Addr} (h : BoxS W g t (prK y z B d C e)) (hg : N g) (ok : OKk y) (ok2 : OKk z) (ty : KrN W N B d y.l) (tz : KrN W N C e z.l) : KrN W N (some ⟨g, 0, none⟩) 2 [y, z] := by
  refine .mk (fun j => if j = 0 then B else C) (fun j => if j = 0 then d else e) (Nat.le_refl _) (by simp [maxLen]) (fun j hj => ?_) (fun j hj => ?_) (fun j hj => ?_)
  all_goals (have hj2 : j < 2 := hj; rcases (show j = 0 ∨ j = 1 by omega) with rfl | rfl)
  · exact ok
  · exact ok2
  · exact ⟨_, rfl, hg, (h.cell 0).trans rfl, (h.cell 1).trans rfl, (h.cell 2).trans rfl, (h.cell 3).trans rfl, (h.cell 4).trans rfl, (h.cell 5).trans rfl⟩
  · exact ⟨_, rfl, hg, (h.cell 6).trans rfl, (h.cell 7).trans rfl, (h.cell 8).trans rfl, (h.cell 9).trans rfl, (h.cell 10).trans rfl, (h.cell 11).trans rfl⟩
  · exact ty
  · exact tz
set_option maxRecDepth 100000 in
set_option maxHeartbeats 4000000 in
/-- two, its new tree in no block that was there. -/
theorem two_N (N : Nat → Prop) (o : Nat) (q : Int) (y z : Kx) (A B : Option Addr) (c d : Nat) (vy vz : Value) (hq : (o : Int) = q) (hy : kxV y A y.l.length c = vy) (hz : kxV z B z.l.length d = vz) (w : World) (Ry : KrN w N A c y.l) (Rz : KrN w N B d z.l) (oky : OKk y) (okz : OKk z) (hN : ∀ k, w.heap.size ≤ k → N k) : Calls Tryd.prog 32 #[.int .u8 q, vy, vz] w fun e w' => ∃ A' c', e = .returned (.agg #[.int .u8 5, .int .u8 q, .int .u8 0, .int .i32 0, .int .i64 0, .slice A' 2 c']) ∧ KrN w' N A' c' [y, z] ∧ Below w.heap.size w w' := by
  subst hq hy hz
  have hP := box6 ((boxS_new w 45 (kxC y A y.l.length c)).alloc (.cells (kxC z B z.l.length d) 45))
  have hQ := box6 (boxS_new (w.alloc (.cells (kxC y A y.l.length c) 45)) 45 (kxC z B z.l.length d))
  have HE : Hid (∀ (X : World) (cs : TypeId), Below w.heap.size w X → KrN (X.alloc (.cells (prK y z A c B d) cs)) N (some ⟨X.heap.size, 0, none⟩) 2 [y, z]) := Lib.hid fun X cs b => KrN.prN (boxS_new X cs (prK y z A c B d)) (hN _ b.size) oky okz ((Ry.keep b).keep (bal (b0 X) _)) ((Rz.keep b).keep (bal (b0 X) _))
  clear Ry Rz oky okz hN
  dsimp only [kxV, kxC] at *
  rw [World.size_alloc] at hQ
  obtain ⟨p0, p1, p2, p3, p4, p5⟩ := hP
  obtain ⟨q0, q1, q2, q3, q4, q5⟩ := hQ
  go_enter Tryd.func32, Tryd.ntmps32
  go_wp2
  obtain ⟨r0, r1, r2, r3, r4, r5⟩ := box6 ((boxS_new ((w.alloc (.cells #[.int .u8 (y.k : Int), .int .u8 (y.o : Int), .int .u8 (y.t : Int), .int .i32 y.n, .int .i64 y.v, .slice A y.l.length c] 45)).alloc (.cells #[.int .u8 (z.k : Int), .int .u8 (z.o : Int), .int .u8 (z.t : Int), .int .i32 z.n, .int .i64 z.v, .slice B z.l.length d] 45)) 45 #[.int .u8 5, .int .u8 (o : Int), .int .u8 0, .int .i32 0, .int .i64 0, .slice (some ⟨w.heap.size + 1 + 1 + 1, 0, none⟩) 2 2]).alloc (.cells (prK y z A c B d) 45))
  have h1 := bal (bal (bal (b0 w) (.cells #[.int .u8 (y.k : Int), .int .u8 (y.o : Int), .int .u8 (y.t : Int), .int .i32 y.n, .int .i64 y.v, .slice A y.l.length c] 45)) (.cells #[.int .u8 (z.k : Int), .int .u8 (z.o : Int), .int .u8 (z.t : Int), .int .i32 z.n, .int .i64 z.v, .slice B z.l.length d] 45)) (.cells #[.int .u8 5, .int .u8 (o : Int), .int .u8 0, .int .i32 0, .int .i64 0, .slice (some ⟨w.heap.size + 1 + 1 + 1, 0, none⟩) 2 2] 45)
  have h2 := HE.out _ 45 h1
  unfold prK at *
  simp only [World.size_alloc] at r0 r1 r2 r3 r4 r5 h2
  refine bodyPost_ret (v := .agg #[.int .u8 5, .int .u8 (o : Int), .int .u8 0, .int .i32 0, .int .i64 0, .slice (some ⟨w.heap.size + 1 + 1 + 1, 0, none⟩) 2 2]) (by simp [results, Tryd.results32, go_sem, r0, r1, r2, r3, r4, r5]) rfl ⟨_, _, rfl, h2, bal h1 _⟩
theorem is_ge {V X : World} {Q : Option Nat} (h : IS V X Q) : ∀ k, X.heap.size ≤ k → some k ≠ Q := fun k hk e => by
  have := (h.q k e.symm).1.lt
  omega
def xVl : Value := .agg #[.int .u8 2, .int .u8 0, .int .u8 0, .int .i32 0, .int .i64 0, .slice none 0 0]
/-- The calls of that region. -/
theorem c17 {V X : World} {Q : Option Nat} (h : IS V X Q) : Calls Tryd.prog 32 #[.int .u8 2, .agg #[.int .u8 2, .int .u8 0, .int .u8 0, .int .i32 0, .int .i64 0, .slice none 0 0], .agg #[.int .u8 1, .int .u8 0, .int .u8 0, .int .i32 7, .int .i64 0, .slice none 0 0]] X fun e w' => ∃ A' c', e = .returned (.agg #[.int .u8 5, .int .u8 2, .int .u8 0, .int .i32 0, .int .i64 0, .slice A' 2 c']) ∧ (KrN w' (fun k => some k ≠ Q) A' c' t1X.l ∧ IS V w' Q) ∧ Below X.heap.size X w' := by
  refine (two_N (fun k => some k ≠ Q) 2 2 xX (kN 7) none none 0 0 _ _ rfl rfl rfl X (KrN.nil X _) (KrN.nil X _) (ok_kV (by decide) (by decide)) (ok_kN ⟨by decide, by decide⟩) (is_ge h)).mono ?_
  rintro e w' ⟨A', c', h1, h2, h3⟩
  exact ⟨A', c', h1, ⟨h2, h.step h3⟩, h3⟩
theorem c18 {V X : World} {Q : Option Nat} {A : Option Addr} {c : Nat} (h : IS V X Q) (t : KrN X (fun k => some k ≠ Q) A c t1X.l) : Calls Tryd.prog 32 #[.int .u8 4, .agg #[.int .u8 1, .int .u8 0, .int .u8 0, .int .i32 1, .int .i64 0, .slice none 0 0], .agg #[.int .u8 5, .int .u8 2, .int .u8 0, .int .i32 0, .int .i64 0, .slice A 2 c]] X fun e w' => ∃ A' c', e = .returned (.agg #[.int .u8 5, .int .u8 4, .int .u8 0, .int .i32 0, .int .i64 0, .slice A' 2 c']) ∧ (KrN w' (fun k => some k ≠ Q) A' c' t2X.l ∧ IS V w' Q) ∧ Below X.heap.size X w' := by
  refine (two_N (fun k => some k ≠ Q) 4 4 (kN 1) t1X none A 0 c _ _ rfl rfl rfl X (KrN.nil X _) t (ok_kN ⟨by decide, by decide⟩) (ok_k2 (by decide)) (is_ge h)).mono ?_
  rintro e w' ⟨A', c', h1, h2, h3⟩
  exact ⟨A', c', h1, ⟨h2, h.step h3⟩, h3⟩
theorem c20 {V X : World} {Q : Option Nat} {A : Option Addr} {c : Nat} (h : IS V X Q) (t : KrN X (fun k => some k ≠ Q) A c t2X.l) : Calls Tryd.prog 32 #[.int .u8 14, .agg #[.int .u8 5, .int .u8 4, .int .u8 0, .int .i32 0, .int .i64 0, .slice A 2 c], .agg #[.int .u8 1, .int .u8 0, .int .u8 0, .int .i32 1, .int .i64 0, .slice none 0 0]] X fun e w' => ∃ A' c', e = .returned (.agg #[.int .u8 5, .int .u8 14, .int .u8 0, .int .i32 0, .int .i64 0, .slice A' 2 c']) ∧ (KrN w' (fun k => some k ≠ Q) A' c' inX.l ∧ IS V w' Q) ∧ Below X.heap.size X w' := by
  refine (two_N (fun k => some k ≠ Q) 14 14 t2X (kN 1) A none c 0 _ _ rfl rfl rfl X t (KrN.nil X _) (ok_k2 (by decide)) (ok_kN ⟨by decide, by decide⟩) (is_ge h)).mono ?_
  rintro e w' ⟨A', c', h1, h2, h3⟩
  exact ⟨A', c', h1, ⟨h2, h.step h3⟩, h3⟩
theorem in_new {w V X : World} {g a : Nat} {A : Option Addr} {c : Nat} (k : Aw2 w V g a) (h : IS V X none) (t : KrN X (fun k => some k ≠ (none : Option Nat)) A c inX.l) : Aw3 w (X.alloc (.cells (iK A c) 45)) g a X.heap.size A c :=
  ⟨k.step (bal h.b _), boxS_new X _ _, t.tr.keep (bal (b0 X) _)⟩
theorem in_old {w V X : World} {g a q : Nat} {A : Option Addr} {c : Nat} (k : Aw2 w V g a) (h : IS V X (some q)) (t : KrN X (fun k => some k ≠ some q) A c inX.l) : Aw3 w (set6 X q (.int .u8 5) (.int .u8 14) (.int .u8 0) (.int .i32 0) (.int .i64 0) (.slice A 2 c)) g a q A c := by
  obtain ⟨bx, hq⟩ := h.q q rfl
  have f := fr_set6 X q (.int .u8 5) (.int .u8 14) (.int .u8 0) (.int .i32 0) (.int .i64 0) (.slice A 2 c)
  exact ⟨k.step (bset6 h.b hq _ _ _ _ _ _), box6_all _ _ _ _ _ _ bx, (t.fr f fun k _ hk e => hk (by rw [e])).tr⟩
theorem in_old' {w V X : World} {g a q : Nat} {A : Option Addr} {c : Nat} (k : Aw2 w V g a) (h : IS V X (some q)) (t : KrN X (fun k => some k ≠ some q) A c inX.l) : Aw3 w ((((((X.setCell ⟨q, 0, none⟩ (.int .u8 5)).setCell ⟨q, 1, none⟩ (.int .u8 14)).setCell ⟨q, 2, none⟩ (.int .u8 0)).setCell ⟨q, 3, none⟩ (.int .i32 0)).setCell ⟨q, 4, none⟩ (.int .i64 0)).setCell ⟨q, 5, none⟩ (.slice A 2 c)) g a q A c := in_old k h t
theorem in_newx {w V X : World} {g a : Nat} {A : Option Addr} {c : Nat} (k : Aw2 w V g a) (h : IS V X none) (t : KrN X (fun k => some k ≠ (none : Option Nat)) A c inX.l) : (X.alloc (.cells #[.int .u8 5, .int .u8 14, .int .u8 0, .int .i32 0, .int .i64 0, .slice A 2 c] 45)).cell? ⟨a, 0, none⟩ = some (.int .u8 2) ∧ (X.alloc (.cells #[.int .u8 5, .int .u8 14, .int .u8 0, .int .i32 0, .int .i64 0, .slice A 2 c] 45)).cell? ⟨a, 1, none⟩ = some (.int .u8 0) ∧ (X.alloc (.cells #[.int .u8 5, .int .u8 14, .int .u8 0, .int .i32 0, .int .i64 0, .slice A 2 c] 45)).cell? ⟨a, 2, none⟩ = some (.int .u8 0) ∧ (X.alloc (.cells #[.int .u8 5, .int .u8 14, .int .u8 0, .int .i32 0, .int .i64 0, .slice A 2 c] 45)).cell? ⟨a, 3, none⟩ = some (.int .i32 0) ∧ (X.alloc (.cells #[.int .u8 5, .int .u8 14, .int .u8 0, .int .i32 0, .int .i64 0, .slice A 2 c] 45)).cell? ⟨a, 4, none⟩ = some (.int .i64 0) ∧ (X.alloc (.cells #[.int .u8 5, .int .u8 14, .int .u8 0, .int .i32 0, .int .i64 0, .slice A 2 c] 45)).cell? ⟨a, 5, none⟩ = some (.slice none 0 0) := box6 (in_new k h t).h.x
theorem in_oldx {w V X : World} {g a q : Nat} {A : Option Addr} {c : Nat} (k : Aw2 w V g a) (h : IS V X (some q)) (t : KrN X (fun k => some k ≠ some q) A c inX.l) : ((((((X.setCell ⟨q, 0, none⟩ (.int .u8 5)).setCell ⟨q, 1, none⟩ (.int .u8 14)).setCell ⟨q, 2, none⟩ (.int .u8 0)).setCell ⟨q, 3, none⟩ (.int .i32 0)).setCell ⟨q, 4, none⟩ (.int .i64 0)).setCell ⟨q, 5, none⟩ (.slice A 2 c)).cell? ⟨a, 0, none⟩ = some (.int .u8 2) ∧ ((((((X.setCell ⟨q, 0, none⟩ (.int .u8 5)).setCell ⟨q, 1, none⟩ (.int .u8 14)).setCell ⟨q, 2, none⟩ (.int .u8 0)).setCell ⟨q, 3, none⟩ (.int .i32 0)).setCell ⟨q, 4, none⟩ (.int .i64 0)).setCell ⟨q, 5, none⟩ (.slice A 2 c)).cell? ⟨a, 1, none⟩ = some (.int .u8 0) ∧ ((((((X.setCell ⟨q, 0, none⟩ (.int .u8 5)).setCell ⟨q, 1, none⟩ (.int .u8 14)).setCell ⟨q, 2, none⟩ (.int .u8 0)).setCell ⟨q, 3, none⟩ (.int .i32 0)).setCell ⟨q, 4, none⟩ (.int .i64 0)).setCell ⟨q, 5, none⟩ (.slice A 2 c)).cell? ⟨a, 2, none⟩ = some (.int .u8 0) ∧ ((((((X.setCell ⟨q, 0, none⟩ (.int .u8 5)).setCell ⟨q, 1, none⟩ (.int .u8 14)).setCell ⟨q, 2, none⟩ (.int .u8 0)).setCell ⟨q, 3, none⟩ (.int .i32 0)).setCell ⟨q, 4, none⟩ (.int .i64 0)).setCell ⟨q, 5, none⟩ (.slice A 2 c)).cell? ⟨a, 3, none⟩ = some (.int .i32 0) ∧ ((((((X.setCell ⟨q, 0, none⟩ (.int .u8 5)).setCell ⟨q, 1, none⟩ (.int .u8 14)).setCell ⟨q, 2, none⟩ (.int .u8 0)).setCell ⟨q, 3, none⟩ (.int .i32 0)).setCell ⟨q, 4, none⟩ (.int .i64 0)).setCell ⟨q, 5, none⟩ (.slice A 2 c)).cell? ⟨a, 4, none⟩ = some (.int .i64 0) ∧ ((((((X.setCell ⟨q, 0, none⟩ (.int .u8 5)).setCell ⟨q, 1, none⟩ (.int .u8 14)).setCell ⟨q, 2, none⟩ (.int .u8 0)).setCell ⟨q, 3, none⟩ (.int .i32 0)).setCell ⟨q, 4, none⟩ (.int .i64 0)).setCell ⟨q, 5, none⟩ (.slice A 2 c)).cell? ⟨a, 5, none⟩ = some (.slice none 0 0) := box6 (in_old' k h t).h.x
theorem IS.x {w V X : World} {g a : Nat} {Q : Option Nat} (k : Aw2 w V g a) (h : IS V X Q) : X.cell? ⟨a, 0, none⟩ = some (.int .u8 2) ∧ X.cell? ⟨a, 1, none⟩ = some (.int .u8 0) ∧ X.cell? ⟨a, 2, none⟩ = some (.int .u8 0) ∧ X.cell? ⟨a, 3, none⟩ = some (.int .i32 0) ∧ X.cell? ⟨a, 4, none⟩ = some (.int .i64 0) ∧ X.cell? ⟨a, 5, none⟩ = some (.slice none 0 0) := box6 (k.step h.b).x
theorem IS.qf {V X : World} {q : Nat} (h : IS V X (some q)) : X.frozen? ⟨q, 0, none⟩ = false ∧ X.frozen? ⟨q, 1, none⟩ = false ∧ X.frozen? ⟨q, 2, none⟩ = false ∧ X.frozen? ⟨q, 3, none⟩ = false ∧ X.frozen? ⟨q, 4, none⟩ = false ∧ X.frozen? ⟨q, 5, none⟩ = false := box6f (h.q q rfl).1
theorem IS.qc {V X : World} {q : Nat} (h : IS V X (some q)) : X.cell? ⟨q, 0, none⟩ = some (.int .u8 0) ∧ X.cell? ⟨q, 1, none⟩ = some (.int .u8 0) ∧ X.cell? ⟨q, 2, none⟩ = some (.int .u8 0) ∧ X.cell? ⟨q, 3, none⟩ = some (.int .i32 0) ∧ X.cell? ⟨q, 4, none⟩ = some (.int .i64 0) ∧ X.cell? ⟨q, 5, none⟩ = some (.slice none 0 0) := box6 (h.q q rfl).1
set_option maxRecDepth 100000 in
set_option maxHeartbeats 16000000 in
theorem awake_any (w : World) (hT : T17 w) : Calls Tryd.prog 12 #[] w fun e w' => e = .returned (.bool true) ∧ Below w.heap.size w w' := by
  have HB2 := Lib.hid fun w => bld2 [7] [1, 2, 3] (smallW (by decide)) (smallW (by decide)) (by decide) (by decide) w
  have HT := Lib.hid hT
  clear hT
  go_enter Tryd.func12, Tryd.ntmps12
  go_upto_region 1 with fail
  go_cut [1] from 1 to 12 (fun p wx => ∃ g : Nat, p = .slice (some ⟨g, 0, none⟩) 2 2 ∧ Hid (Below w.heap.size w wx ∧ StR wx (some ⟨g, 0, none⟩) 2 s0X))
  case first =>
    go_wp2
    go_meet
    case rel => exact ⟨w.heap.size + 1 + 1, rfl, Lib.hid ⟨bal (bal (bal (b0 w) _) _) _, HB2.out w⟩⟩
  case rest =>
    obtain ⟨g, rfl, HS⟩ := hcut
    clear HB2
    generalize hX1 : wc = X1 at *
    clear hX1
    go_upto_region 2 with fail
    go_cut [2] from 2 to 13 (fun p wx => ∃ a : Nat, p = .pointer (some ⟨a, 0, none⟩) ∧ Hid (Aw2 w wx g a))
    case first =>
      go_wp2_with (go_at_call 36; (with_reducible refine (variable_any 0 _).mono ?_); rintro e1 w1 ⟨rfl, b1⟩; have B1 := Lib.hid b1; clear b1)
      go_meet
      case rel => exact ⟨w1.heap.size, rfl, Lib.hid ⟨bal (blw HS.out.1 B1.out) _, (HT.out.below (blw HS.out.1 B1.out)).below (bal (b0 _) _), (HS.out.2.keep B1.out).keep (bal (b0 _) _), boxS_new w1 _ _⟩⟩
    case rest =>
      obtain ⟨a, rfl, HA⟩ := hcut
      clear HS
      generalize hX2 : wc = X2 at *
      clear hX2
      go_upto_region 3 with fail
      go_cut [3] from 3 to 20 (fun p wx => ∃ i N c, p = .pointer (some ⟨i, 0, none⟩) ∧ Hid (Aw3 w wx g a i N c))
      case first =>
        have I0 := Lib.hid (show IS X2 X2.drew none from ⟨bdrew (b0 X2) 1, fun k e => by cases e⟩)
        have IA := Lib.hid (show IS X2 (X2.alloc (.cells zK 45)).drew (some X2.heap.size) from I0.out.al)
        go_region_held3 (fun w' => w'.cell? ⟨a, 0, none⟩ = some (.int .u8 2) ∧ w'.cell? ⟨a, 1, none⟩ = some (.int .u8 0) ∧ w'.cell? ⟨a, 2, none⟩ = some (.int .u8 0) ∧ w'.cell? ⟨a, 3, none⟩ = some (.int .i32 0) ∧ w'.cell? ⟨a, 4, none⟩ = some (.int .i64 0) ∧ w'.cell? ⟨a, 5, none⟩ = some (.slice none 0 0))
          (first | (with_reducible exact in_oldx HA.out I6.out T6.out) | (with_reducible exact in_newx HA.out I6.out T6.out) | (with_reducible exact IS.x HA.out I6.out) | (with_reducible exact IS.x HA.out I5.out) | (with_reducible exact IS.x HA.out I4.out) | (with_reducible exact IS.x HA.out I3.out) | (with_reducible exact IS.x HA.out I2.out) | (with_reducible exact IS.x HA.out I1.out) | (with_reducible exact IS.x HA.out I0.out) | (with_reducible exact IS.x HA.out I6.out.al) | (with_reducible exact IS.x HA.out I5.out.al) | (with_reducible exact IS.x HA.out I4.out.al) | (with_reducible exact IS.x HA.out I3.out.al) | (with_reducible exact IS.x HA.out I2.out.al) | (with_reducible exact IS.x HA.out I1.out.al) | (with_reducible exact IS.x HA.out I0.out.al) | (with_reducible exact box6 HA.out.x) | (with_reducible exact IS.x HA.out IA.out) | go_keep)
          (first
          | (go_at_call 31; (with_reducible refine (number_any 1 _).mono ?_); rintro e1 w1 ⟨rfl, b1⟩; (first | (have I1 := Lib.hid (I0.out.step b1)) | (have I1 : Hid (IS X2 w1 (some X2.heap.size)) := Lib.hid (I0.out.al.step b1))); clear b1)
          | (go_at_call 31; (with_reducible refine (number_any 7 _).mono ?_); rintro e1 w2 ⟨rfl, b1⟩; (first | (have I2 := Lib.hid (I1.out.step b1)) | (have I2 := Lib.hid (I1.out.al.step b1))); clear b1)
          | (go_at_call 32; (first | (with_reducible refine (c17 I2.out).mono ?_) | (with_reducible refine (c17 I2.out.al).mono ?_)); rintro e1 w3 ⟨A3, c3, rfl, ⟨t1, h1⟩, b1⟩; have I3 := Lib.hid h1; have T3 := Lib.hid t1; clear b1 t1 h1)
          | (go_at_call 32; (first | (with_reducible refine (c18 I3.out T3.out).mono ?_) | (with_reducible refine (c18 I3.out.al (T3.out.al _)).mono ?_)); rintro e1 w4 ⟨A4, c4, rfl, ⟨t1, h1⟩, b1⟩; have I4 := Lib.hid h1; have T4 := Lib.hid t1; clear b1 t1 h1)
          | (go_at_call 31; (with_reducible refine (number_any 1 _).mono ?_); rintro e1 w5 ⟨rfl, b1⟩; (first | (have I5 := Lib.hid (I4.out.step b1); have T5 := Lib.hid (T4.out.keep b1)) | (have I5 := Lib.hid (I4.out.al.step b1); have T5 := Lib.hid ((T4.out.al _).keep b1))); clear b1)
          | (go_at_call 32; (first | (with_reducible refine (c20 I5.out T5.out).mono ?_) | (with_reducible refine (c20 I5.out.al (T5.out.al _)).mono ?_)); rintro e1 w6 ⟨A6, c6, rfl, ⟨t1, h1⟩, b1⟩; have I6 := Lib.hid h1; have T6 := Lib.hid t1; clear b1 t1 h1; (try (obtain ⟨z0, z1, z2, z3, z4, z5⟩ := I6.out.qc; obtain ⟨f0, f1, f2, f3, f4, f5⟩ := I6.out.qf)); (try (obtain ⟨z0, z1, z2, z3, z4, z5⟩ := I6.out.qc; obtain ⟨f0, f1, f2, f3, f4, f5⟩ := I6.out.qf))))
        all_goals (
          go_step
          go_step
          go_meet
          case rel =>
            first
            | (with_reducible exact ⟨_, _, _, rfl, Lib.hid (in_new HA.out I6.out T6.out)⟩)
            | (with_reducible exact ⟨_, _, _, rfl, Lib.hid (in_old' HA.out I6.out T6.out)⟩))
      case rest =>
        obtain ⟨i, N, c, rfl, H3⟩ := hcut
        clear HA
        generalize hX3 : wc = X3 at *
        clear hX3
        have HB1 := Lib.hid b567
        go_upto_region 4 with fail
        go_cut [4, 5, 6] from 4 to 30 (fun p q r wx => p = .int .i64 0 ∧ q = .int .i64 2 ∧ r = .bool true ∧ Hid (Aw3 w wx g a i N c))
        case first =>
          go_wp2_with (first
            | (go_at_call 31; (with_reducible refine (number_any 2 _).mono ?_); rintro e1 w1 ⟨rfl, b1⟩; have M1 := Lib.hid ((H3.out.step (blw (bal (b0 X3) _) (bal (b0 _) _))).step b1); have K1 := Lib.hid ((HB1.out X3).keep b1); clear b1)
            | (go_at_call 21; (with_reducible refine (place_at _ _ K1.out M1.out.h.t).mono ?_); rintro e1 w2 ⟨rfl, b1⟩; have M2 := Lib.hid (M1.out.step b1); clear b1))
          go_meet
          case rel => exact ⟨rfl, rfl, rfl, M2⟩
        case rest =>
          obtain ⟨rfl, rfl, rfl, H4⟩ := hcut
          clear H3
          generalize hX4 : wc = X4 at *
          clear hX4
          go_upto_region 5 with fail
          go_cut [7] from 7 to 33 (fun p wx => ∃ A d, p = .slice A 1 d ∧ Hid (Aw3 w wx g a i N c ∧ StR wx A d [[5, 9, 7]]))
          case first =>
            go_wp2_with (go_at_call 24; (with_reducible refine (put_is _ _ (HB1.out X4)).mono ?_); rintro e1 w1 ⟨A, d, rfl, t1, b1⟩; have M1 := Lib.hid (And.intro ((H4.out.step (blw (bal (b0 X4) _) (bal (b0 _) _))).step b1) t1); clear b1 t1)
            go_meet
            case rel => exact ⟨_, _, rfl, M1⟩
          case rest =>
            obtain ⟨A, d, rfl, H5⟩ := hcut
            clear H4 HB1
            generalize hX5 : wc = X5 at *
            clear hX5
            go_upto_region 6 with fail
            go_cut [8] from 8 to 37 (fun p wx => ∃ v z, p = .pointer (some ⟨z, 0, none⟩) ∧ Hid ((Aw3 w wx g a i N c ∧ StR wx A d [[5, 9, 7]]) ∧ VaR wx (some ⟨v, 0, none⟩) 2 vsX ∧ BoxS wx z 37 (kzC (some ⟨v, 0, none⟩) 2 2)))
            case first =>
              go_wp2
              go_meet
              case rel => exact ⟨X5.heap.size, X5.heap.size + 1, rfl, Lib.hid ⟨⟨(H5.out.1.step (bal (b0 X5) _)).step (bal (b0 _) _), (H5.out.2.keep (bal (b0 X5) _)).keep (bal (b0 _) _)⟩, (var_two (boxS_new X5 _ _)).keep (bal (b0 _) _), by have := boxS_new (X5.alloc (.cells #[.int .u8 1, .int .i64 0, .int .u8 3, .int .i64 3] 79)) 37 (kzC (some ⟨X5.heap.size, 0, none⟩) 2 2); rw [World.size_alloc] at this; exact this⟩⟩
            case rest =>
              obtain ⟨v, z, rfl, M⟩ := hcut
              clear H5
              generalize hX6 : wc = X6 at *
              clear hX6
              go_upto_region 7 with fail
              go_cut [9] from 9 to 79 (fun p wx => p = .bool true ∧ Hid (Below X6.heap.size X6 wx))
              case first =>
                obtain ⟨c0, hc0⟩ : ∃ c0, c = c0 := ⟨c, rfl⟩
                subst hc0
                have M0 := Lib.hid (show Aw4 w X6 X6.drew g a i N c from ⟨M.out.1.1.step (bdrew (b0 X6) 1), bdrew (b0 X6) 1⟩)
                have BZ := Lib.hid (show Below X6.heap.size X6 X6.drew from bdrew (b0 X6) 1)
                have W1 := Lib.hid fun X => two_is 2 2 xX (kN 5) none none 0 0 (.agg #[.int .u8 2, .int .u8 0, .int .u8 0, .int .i32 0, .int .i64 0, .slice none 0 0]) (.agg #[.int .u8 1, .int .u8 0, .int .u8 0, .int .i32 5, .int .i64 0, .slice none 0 0]) rfl rfl rfl X (KrR.nil X) (KrR.nil X) (ok_kV (by decide) (by decide)) (ok_kN ⟨by decide, by decide⟩)
                have W2 := Lib.hid fun X A d (t : KrR X A d [xX, kN 5]) => elem_is 1 (k2 2 xX (kN 5)) A d (.agg #[.int .u8 5, .int .u8 2, .int .u8 0, .int .i32 0, .int .i64 0, .slice A 2 d]) rfl X t (ok_k2 (by decide))
                have W3 := Lib.hid fun X A d (t : KrR X A d [k2 2 xX (kN 5)]) (h : Aw3 w X g a i N c) => is_is v1X (sn := 2) rfl (A := A) (c := d) (v := .agg #[.int .u8 3, .int .u8 0, .int .u8 0, .int .i32 0, .int .i64 1, .slice A 1 d]) rfl (ok_kE (by decide) (by decide)) X t h.h.s h.h.t
                have W4 := Lib.hid fun X => elem_is 1 xX none 0 (.agg #[.int .u8 2, .int .u8 0, .int .u8 0, .int .i32 0, .int .i64 0, .slice none 0 0]) rfl X (KrR.nil X) (ok_kV (by decide) (by decide))
                have W5 := Lib.hid fun X A d (t : KrR X A d [xX]) (h : Aw3 w X g a i N c) => ft_is v2X (sn := 2) rfl (A := A) (c := d) (v := .agg #[.int .u8 3, .int .u8 0, .int .u8 0, .int .i32 0, .int .i64 1, .slice A 1 d]) rfl (ok_kE (by decide) (by decide)) X t h.h.s h.h.t
                have W6 := Lib.hid fun X => two_is 14 14 xX (kN 0) none none 0 0 (.agg #[.int .u8 2, .int .u8 0, .int .u8 0, .int .i32 0, .int .i64 0, .slice none 0 0]) (.agg #[.int .u8 1, .int .u8 0, .int .u8 0, .int .i32 0, .int .i64 0, .slice none 0 0]) rfl rfl rfl X (KrR.nil X) (KrR.nil X) (ok_kV (by decide) (by decide)) (ok_kN ⟨by decide, by decide⟩)
                have W7 := Lib.hid fun X A d (t : KrR X A d [xX, kN 0]) (h : Aw3 w X g a i N c) => two_is 20 20 (k2 14 xX (kN 0)) inX A N d c (.agg #[.int .u8 5, .int .u8 14, .int .u8 0, .int .i32 0, .int .i64 0, .slice A 2 d]) (.agg #[.int .u8 5, .int .u8 14, .int .u8 0, .int .i32 0, .int .i64 0, .slice N 2 c]) rfl rfl rfl X t h.r (ok_k2 (by decide)) (ok_k2 (by decide))
                have W8 := Lib.hid fun X A d (t : KrR X A d [k2 14 xX (kN 0), inX]) (h : Aw3 w X g a i N c) => is_is v3X (sn := 2) rfl (A := A) (c := d) (v := .agg #[.int .u8 5, .int .u8 20, .int .u8 0, .int .i32 0, .int .i64 0, .slice A 2 d]) rfl (ok_k2 (by decide)) X t h.h.s h.h.t
                have W9 := Lib.hid fun X => two_is 14 14 xX (kN 7) none none 0 0 (.agg #[.int .u8 2, .int .u8 0, .int .u8 0, .int .i32 0, .int .i64 0, .slice none 0 0]) (.agg #[.int .u8 1, .int .u8 0, .int .u8 0, .int .i32 7, .int .i64 0, .slice none 0 0]) rfl rfl rfl X (KrR.nil X) (KrR.nil X) (ok_kV (by decide) (by decide)) (ok_kN ⟨by decide, by decide⟩)
                have W10 := Lib.hid fun X A d (t : KrR X A d [xX, kN 7]) (h : Aw3 w X g a i N c) => two_is 20 20 (k2 14 xX (kN 7)) inX A N d c (.agg #[.int .u8 5, .int .u8 14, .int .u8 0, .int .i32 0, .int .i64 0, .slice A 2 d]) (.agg #[.int .u8 5, .int .u8 14, .int .u8 0, .int .i32 0, .int .i64 0, .slice N 2 c]) rfl rfl rfl X t h.r (ok_k2 (by decide)) (ok_k2 (by decide))
                have W11 := Lib.hid fun X A d (t : KrR X A d [k2 14 xX (kN 7), inX]) (h : Aw3 w X g a i N c) => ft_is v4X (sn := 2) rfl (A := A) (c := d) (v := .agg #[.int .u8 5, .int .u8 20, .int .u8 0, .int .i32 0, .int .i64 0, .slice A 2 d]) rfl (ok_k2 (by decide)) X t h.h.s h.h.t
                have W12 := Lib.hid fun X => two_is 20 20 (kN 5) (kN 1) none none 0 0 (.agg #[.int .u8 1, .int .u8 0, .int .u8 0, .int .i32 5, .int .i64 0, .slice none 0 0]) (.agg #[.int .u8 1, .int .u8 0, .int .u8 0, .int .i32 1, .int .i64 0, .slice none 0 0]) rfl rfl rfl X (KrR.nil X) (KrR.nil X) (ok_kN ⟨by decide, by decide⟩) (ok_kN ⟨by decide, by decide⟩)
                have W13 := Lib.hid fun X A d (t : KrR X A d [kN 5, kN 1]) (h : Aw3 w X g a i N c) => ft_is v5X (sn := 2) rfl (A := A) (c := d) (v := .agg #[.int .u8 5, .int .u8 20, .int .u8 0, .int .i32 0, .int .i64 0, .slice A 2 d]) rfl (ok_k2 (by decide)) X t h.h.s h.h.t
                have W14 := Lib.hid fun X (h : Aw3 w X g a i N c) => ft_is v6X (sn := 2) rfl (A := none) (c := 0) (v := .agg #[.int .u8 2, .int .u8 0, .int .u8 0, .int .i32 0, .int .i64 2, .slice none 0 0]) rfl (ok_kV (by decide) (by decide)) X (KrR.nil X) h.h.s h.h.t
                have MM := Lib.hid M.out.1
                clear M
                have M := MM
                clear MM
                go_region_held3 (fun w' => (w'.cell? ⟨a, 0, none⟩ = some (.int .u8 2) ∧ w'.cell? ⟨a, 1, none⟩ = some (.int .u8 0) ∧ w'.cell? ⟨a, 2, none⟩ = some (.int .u8 0) ∧ w'.cell? ⟨a, 3, none⟩ = some (.int .i32 0) ∧ w'.cell? ⟨a, 4, none⟩ = some (.int .i64 0) ∧ w'.cell? ⟨a, 5, none⟩ = some (.slice none 0 0)) ∧ (w'.cell? ⟨i, 0, none⟩ = some (.int .u8 5) ∧ w'.cell? ⟨i, 1, none⟩ = some (.int .u8 14) ∧ w'.cell? ⟨i, 2, none⟩ = some (.int .u8 0) ∧ w'.cell? ⟨i, 3, none⟩ = some (.int .i32 0) ∧ w'.cell? ⟨i, 4, none⟩ = some (.int .i64 0) ∧ w'.cell? ⟨i, 5, none⟩ = some (.slice N 2 c)))
                  (first | (with_reducible exact M20.out.h.cells) | (with_reducible exact M19.out.h.cells) | (with_reducible exact M18.out.h.cells) | (with_reducible exact M17.out.h.cells) | (with_reducible exact M16.out.h.cells) | (with_reducible exact M15.out.h.cells) | (with_reducible exact M14.out.h.cells) | (with_reducible exact M13.out.h.cells) | (with_reducible exact M12.out.h.cells) | (with_reducible exact M11.out.h.cells) | (with_reducible exact M10.out.h.cells) | (with_reducible exact M9.out.h.cells) | (with_reducible exact M8.out.h.cells) | (with_reducible exact M7.out.h.cells) | (with_reducible exact M6.out.h.cells) | (with_reducible exact M5.out.h.cells) | (with_reducible exact M4.out.h.cells) | (with_reducible exact M3.out.h.cells) | (with_reducible exact M2.out.h.cells) | (with_reducible exact M1.out.h.cells) | (with_reducible exact M0.out.h.cells) | (with_reducible exact M.out.1.cells) | go_keep)
                  (first
                  | (go_at_call 31; (with_reducible refine (number_any 5 _).mono ?_); rintro e1 u1 ⟨rfl, b1⟩; have M1 := Lib.hid (M0.out.step b1); clear b1)
                  | (go_at_call 32; (with_reducible refine (W1.out _).mono ?_); rintro e1 u2 ⟨A41, c41, rfl, t1, b1⟩; have M2 := Lib.hid (M1.out.step b1); have T41 := Lib.hid t1; clear t1; clear b1)
                  | (go_at_call 30; (with_reducible refine (W2.out _ _ _ T41.out).mono ?_); rintro e1 u3 ⟨A42, c42, rfl, t1, b1⟩; have M3 := Lib.hid (M2.out.step b1); have T42 := Lib.hid t1; clear t1; clear b1)
                  | (go_at_call 29; (with_reducible refine (W3.out _ _ _ T42.out M3.out.h).mono ?_); rintro e1 u4 ⟨rfl, b1⟩; have M4 := Lib.hid (M3.out.step b1); clear b1)
                  | (go_at_call 30; (with_reducible refine (W4.out _).mono ?_); rintro e1 u5 ⟨A47, c47, rfl, t1, b1⟩; have M5 := Lib.hid (M4.out.step b1); have T47 := Lib.hid t1; clear t1; clear b1)
                  | (go_at_call 34; (with_reducible refine (W5.out _ _ _ T47.out M5.out.h).mono ?_); rintro e1 u6 ⟨rfl, b1⟩; have M6 := Lib.hid (M5.out.step b1); clear b1)
                  | (go_at_call 31; (with_reducible refine (number_any 0 _).mono ?_); rintro e1 u7 ⟨rfl, b1⟩; have M7 := Lib.hid (M6.out.step b1); clear b1)
                  | (go_at_call 32; (with_reducible refine (W6.out _).mono ?_); rintro e1 u8 ⟨A54, c54, rfl, t1, b1⟩; have M8 := Lib.hid (M7.out.step b1); have T54 := Lib.hid t1; clear t1; clear b1)
                  | (go_at_call 32; (with_reducible refine (W7.out _ _ _ T54.out M8.out.h).mono ?_); rintro e1 u9 ⟨A56, c56, rfl, t1, b1⟩; have M9 := Lib.hid (M8.out.step b1); have T56 := Lib.hid t1; clear t1; clear b1)
                  | (go_at_call 29; (with_reducible refine (W8.out _ _ _ T56.out M9.out.h).mono ?_); rintro e1 u10 ⟨rfl, b1⟩; have M10 := Lib.hid (M9.out.step b1); clear b1)
                  | (go_at_call 31; (with_reducible refine (number_any 7 _).mono ?_); rintro e1 u11 ⟨rfl, b1⟩; have M11 := Lib.hid (M10.out.step b1); clear b1)
                  | (go_at_call 32; (with_reducible refine (W9.out _).mono ?_); rintro e1 u12 ⟨A63, c63, rfl, t1, b1⟩; have M12 := Lib.hid (M11.out.step b1); have T63 := Lib.hid t1; clear t1; clear b1)
                  | (go_at_call 32; (with_reducible refine (W10.out _ _ _ T63.out M12.out.h).mono ?_); rintro e1 u13 ⟨A65, c65, rfl, t1, b1⟩; have M13 := Lib.hid (M12.out.step b1); have T65 := Lib.hid t1; clear t1; clear b1)
                  | (go_at_call 34; (with_reducible refine (W11.out _ _ _ T65.out M13.out.h).mono ?_); rintro e1 u14 ⟨rfl, b1⟩; have M14 := Lib.hid (M13.out.step b1); clear b1)
                  | (go_at_call 31; (with_reducible refine (number_any 5 _).mono ?_); rintro e1 u15 ⟨rfl, b1⟩; have M15 := Lib.hid (M14.out.step b1); clear b1)
                  | (go_at_call 31; (with_reducible refine (number_any 1 _).mono ?_); rintro e1 u16 ⟨rfl, b1⟩; have M16 := Lib.hid (M15.out.step b1); clear b1)
                  | (go_at_call 32; (with_reducible refine (W12.out _).mono ?_); rintro e1 u17 ⟨A72, c72, rfl, t1, b1⟩; have M17 := Lib.hid (M16.out.step b1); have T72 := Lib.hid t1; clear t1; clear b1)
                  | (go_at_call 34; (with_reducible refine (W13.out _ _ _ T72.out M17.out.h).mono ?_); rintro e1 u18 ⟨rfl, b1⟩; have M18 := Lib.hid (M17.out.step b1); clear b1)
                  | (go_at_call 36; (with_reducible refine (variable_any 2 _).mono ?_); rintro e1 u19 ⟨rfl, b1⟩; have M19 := Lib.hid (M18.out.step b1); clear b1)
                  | (go_at_call 34; (with_reducible refine (W14.out _ M19.out.h).mono ?_); rintro e1 u20 ⟨rfl, b1⟩; have M20 := Lib.hid (M19.out.step b1); clear b1))
                go_step
                go_step
                go_meet
                case rel => exact ⟨rfl, Lib.hid M20.out.v⟩
              case rest =>
                obtain ⟨rfl, B7⟩ := hcut
                have M7 := Lib.hid (show Aw5 w wc A d v z from ⟨(M.out.1.1.h.b.trans (B7.out.mono M.out.1.1.h.b.size)), M.out.1.2.keep B7.out, M.out.2.1.keep B7.out, M.out.2.2.below B7.out⟩)
                clear M B7
                generalize hX7 : wc = X7 at *
                clear hX7
                obtain ⟨z0, z1, z2, z3, z4, z5, z6, z7, z8, z9, z10⟩ := M7.out.c
                have P1 := Lib.hid fun W (h : Aw5 w W A d v z) => same_is (a := [[5, 9, 7]]) (n := 1) rfl _ ((h.s.keep (bal (b0 W) (.cells #[.int .i32 5, .int .i32 9, .int .i32 7] 21))).keep (bal (b0 _) (.cells #[.slice (some ⟨W.heap.size, 0, none⟩) 3 3] 54))) (b597 W)
                have P2 := Lib.hid fun W (h : Aw5 w W A d v z) => store_is (some ⟨v, 0, none⟩) W h.r
                have P3 := Lib.hid fun W A' c' (h : StR W A' c' [[0], [0, 0, 0]]) => same_is (a := [[0], [0, 0, 0]]) (n := 2) rfl _ (((h.keep (bal (b0 W) (.cells #[.int .i32 0] 21))).keep (bal (b0 _) (.cells #[.int .i32 0, .int .i32 0, .int .i32 0] 21))).keep (bal (b0 _) (.cells #[.slice (some ⟨W.heap.size, 0, none⟩) 1 1, .slice (some ⟨W.heap.size + 1, 0, none⟩) 3 3] 54))) (b00 W)
                have P4 := Lib.hid fun W (h : Aw5 w W A d v z) => may_is m1X rfl _ (((h.r.keep (bal (b0 W) (.cells #[.int .i32 (-9)] 21))).keep (bal (b0 _) (.cells #[.int .i32 0, .int .i32 1, .int .i32 0] 21))).keep (bal (b0 _) (.cells #[.slice (some ⟨W.heap.size, 0, none⟩) 1 1, .slice (some ⟨W.heap.size + 1, 0, none⟩) 3 3] 54))) (bm1 W)
                have P5 := Lib.hid fun W (h : Aw5 w W A d v z) => may_is m2X rfl _ (((h.r.keep (bal (b0 W) (.cells #[.int .i32 (-9)] 21))).keep (bal (b0 _) (.cells #[.int .i32 0, .int .i32 2, .int .i32 0] 21))).keep (bal (b0 _) (.cells #[.slice (some ⟨W.heap.size, 0, none⟩) 1 1, .slice (some ⟨W.heap.size + 1, 0, none⟩) 3 3] 54))) (bm2 W)
                go_wp2_with (first
                  | (go_at_call 18; (with_reducible refine (P1.out _ M7.out).mono ?_); rintro e1 u1 ⟨rfl, b1⟩; have R1 := Lib.hid (M7.out.step (blw (blw (bal (b0 _) _) (bal (b0 _) _)) b1)); clear b1 P1; clear z0 z1 z2 z3 z4 z5 z6 z7 z8 z9 z10; obtain ⟨z0, z1, z2, z3, z4, z5, z6, z7, z8, z9, z10⟩ := R1.out.c)
                  | (go_at_call 13; (with_reducible refine (P2.out _ R1.out).mono ?_); rintro e1 u2 ⟨A2, c2, rfl, t2, b1⟩; have R2 := Lib.hid (R1.out.step b1); have T2 := Lib.hid t2; clear b1 t2 P2; clear z0 z1 z2 z3 z4 z5 z6 z7 z8 z9 z10; obtain ⟨z0, z1, z2, z3, z4, z5, z6, z7, z8, z9, z10⟩ := R2.out.c)
                  | (go_at_call 18; (with_reducible refine (P3.out _ _ _ T2.out).mono ?_); rintro e1 u3 ⟨rfl, b1⟩; have R3 := Lib.hid (R2.out.step (blw (blw (bal (b0 _) _) (bal (bal (b0 _) _) _)) b1)); clear b1 P3; clear z0 z1 z2 z3 z4 z5 z6 z7 z8 z9 z10; obtain ⟨z0, z1, z2, z3, z4, z5, z6, z7, z8, z9, z10⟩ := R3.out.c)
                  | (go_at_call 16; (with_reducible refine (P4.out _ R3.out).mono ?_); rintro e1 u4 ⟨rfl, b1⟩; have R4 := Lib.hid (R3.out.step (blw (blw (bal (b0 _) _) (bal (bal (b0 _) _) _)) b1)); clear b1 P4; clear z0 z1 z2 z3 z4 z5 z6 z7 z8 z9 z10; obtain ⟨z0, z1, z2, z3, z4, z5, z6, z7, z8, z9, z10⟩ := R4.out.c)
                  | (go_at_call 16; (with_reducible refine (P5.out _ R4.out).mono ?_); rintro e1 u5 ⟨rfl, b1⟩; have R5 := Lib.hid (R4.out.step (blw (blw (bal (b0 _) _) (bal (bal (b0 _) _) _)) b1)); clear b1 P5))
                go_ret
                exact ⟨rfl, R5.out.b⟩
end Go.Proofs.YtblckajejohlbaaDoor
/- The laws EvalValues, EvalStores. -/
set_option linter.unusedVariables false
set_option linter.unusedSimpArgs false
namespace Go.Proofs.YtblckajejohlbaaDoor
open Go Go.RowKit L8 L22 L17
open L14 (inW)

/-- A store as it came: the sizes of a machine. -/
structure StM (s : St) : Prop where
  b : ∀ l ∈ s, l.length * 4 ≤ 140737488355328
  n : s.length * 24 ≤ 140737488355328
/-- On the way through a law. -/
structure LwS (w X : World) (s : St) (S : Option Addr) (sc : Nat) : Prop where
  b : Below w.heap.size w X
  t : T17 X
  s : StR X S sc s
theorem LwS.new {w : World} {s : St} {S : Option Addr} {sc : Nat} (t : T17 w) (h : StR w S sc s) : LwS w w s S sc := ⟨b0 w, t, h⟩
theorem LwS.step {w X Y : World} {s : St} {S : Option Addr} {sc : Nat} (h : LwS w X s S sc) (b : Below X.heap.size X Y) : LwS w Y s S sc := ⟨blw h.b b, h.t.below b, h.s.keep b⟩
set_option maxRecDepth 100000 in
set_option maxHeartbeats 4000000 in
theorem walkEvalValues (s : St) (S : Option Addr) (sn sc : Nat) (hs : s.length = sn) (e : Kx) (A : Option Addr) (n c : Nat) (hn : e.l.length = n) (ok : OKk e) (w : World) (T : StR w S sc s) (hM : StM s) (R : KrR w A c e.l) (hT : T17 w) : Calls Tryd.prog 4 #[.slice S sn sc, kxV e A n c] w fun en w' => en = .returned (.bool true) ∧ Below w.heap.size w w' := by
  have HV := Lib.hid (VS.new (n := n) R T)
  have T0 := Lib.hid (hT.below HV.out.bel)
  have CG := Lib.hid fun X (h : Hid (VS w X e A n c s S sc)) => great_any s S sn sc X h.out.st hs hM.b (by rw [← hs]; exact hM.n)
  have HP := Lib.hid fun X (H : Hid (VS w X e A n c s S sc)) => H.out.box
  have C1 := Lib.hid fun X (h : Hid (VS w X e A n c s S sc)) (t : T17 X) => PValue_any s S sn sc hs e A n c X h.out.tr ok hn h.out.st t
  have C2 := Lib.hid fun X (h : Hid (VS w X e A n c s S sc)) => RValue_any s S sn sc hs e A n c X h.out.tr ok hn h.out.st
  obtain ⟨p0, p1, p2, p3, p4, p5⟩ := HV.out.box
  unfold apR at C1 C2
  generalize (valK s e).getD 0 = v at *
  generalize (valK s e).isSome = z at *
  generalize decide (600 < grS s) = g at *
  have qv : (v == v) = true := by simp
  clear T R hT hM ok hn hs
  dsimp only [kxV, kxC] at *
  go_enter Tryd.func4, Tryd.ntmps4
  cases g with
  | true =>
    go_wp2_with (first
      | (go_at_call 11; (with_reducible refine (CG.out _ HV).mono ?_); rintro en w1 ⟨rfl, rfl⟩)
      | (go_at_call 12; (with_reducible refine (awake_any _ T0.out).mono ?_); rintro en w1 ⟨rfl, b⟩; have H1 := Lib.hid (HV.out.step b); clear b))
    go_ret
    exact ⟨rfl, H1.out.bel⟩
  | false =>
    cases z <;>
      (go_wp2_with (first
        | (go_at_call 11; (with_reducible refine (CG.out _ HV).mono ?_); rintro en w1 ⟨rfl, rfl⟩)
        | (go_at_call 19; (with_reducible refine (C1.out _ HV T0.out).mono ?_); rintro en w1 ⟨rfl, b⟩; have H1 := Lib.hid (HV.out.step b); have T1 := Lib.hid (T0.out.below b); clear b; clear p0 p1 p2 p3 p4 p5; obtain ⟨p0, p1, p2, p3, p4, p5⟩ := HP.out _ H1)
        | (go_at_call 20; (with_reducible refine (C2.out _ H1).mono ?_); rintro en w2 ⟨rfl, b⟩; have H2 := Lib.hid (H1.out.step b); have T2 := Lib.hid (T1.out.below b); clear b)
        | (go_at_call 12; (with_reducible refine (awake_any _ T2.out).mono ?_); rintro en w3 ⟨rfl, b⟩; have H3 := Lib.hid (H2.out.step b); clear b))
       go_ret
       exact ⟨rfl, H3.out.bel⟩)
end Go.Proofs.YtblckajejohlbaaDoor
/- Expressions, stores, variables, places that came in; the table that the rows list. -/
set_option linter.unusedVariables false
set_option linter.unusedSimpArgs false
namespace Go.Proofs.YtblckajejohlbaaDoor
open Go Go.RowKit Go.ChangeShapes Go.WideShapes Go.Deep Go.ChangeAt L8 L22 L17
open L14 (inW)

theorem list_of {α : Type} (d : α) {P : Nat → α → Prop} (n : Nat) (h : ∀ i, i < n → ∃ x, P i x) : ∃ ls : List α, ls.length = n ∧ ∀ i, i < n → P i (ls.getD i d) := by
  induction n with
  | zero => exact ⟨[], rfl, fun i hi => absurd hi (by omega)⟩
  | succ n ih =>
    obtain ⟨ls, hl, hp⟩ := ih (fun i hi => h i (by omega))
    obtain ⟨x, hx⟩ := h n (by omega)
    refine ⟨ls ++ [x], by simp [hl], fun i hi => ?_⟩
    by_cases hin : i < n
    · have e : (ls ++ [x]).getD i d = ls.getD i d := by simp [List.getElem?_append_left (show i < ls.length by omega)]
      rw [e]; exact hp i hin
    · obtain rfl : i = n := by omega
      have e : (ls ++ [x]).getD i d = x := by rw [← hl]; simp
      rw [e]; exact hx
theorem i64_wf {a : Int} (h : (Lit.int .i64 a).wf = true) : -9223372036854775808 ≤ a ∧ a ≤ 9223372036854775807 := by
  simp only [Lit.wf, IntKind.min, IntKind.max, IntKind.signed, IntKind.bits, Bool.and_eq_true, decide_eq_true_eq] at h
  simp at h
  omega
theorem u8_wfX {a : Int} (h : (Lit.int .u8 a).wf = true) : 0 ≤ a ∧ a < 256 := by
  simp only [Lit.wf, IntKind.min, IntKind.max, IntKind.signed, IntKind.bits, Bool.and_eq_true, decide_eq_true_eq] at h
  simp at h
  omega
theorem i32_wfX {a : Int} (h : (Lit.int .i32 a).wf = true) : inW a := by
  simp only [Lit.wf, IntKind.min, IntKind.max, IntKind.signed, IntKind.bits, Bool.and_eq_true, decide_eq_true_eq] at h
  simp at h
  exact ⟨by omega, by omega⟩
/-- A tree as it came: where its parts lie. -/
structure Ky where
  e : Kx
  A : Option Addr
  c : Nat
def ky0 : Ky := ⟨k0, none, 0⟩
def kyC (y : Ky) : List Value := [.int .u8 (y.e.k : Int), .int .u8 (y.e.o : Int), .int .u8 (y.e.t : Int), .int .i32 y.e.n, .int .i64 y.e.v, .slice y.A y.e.l.length y.c]
theorem ky_map (ls : List Ky) (j : Nat) : (ls.map Ky.e).getD j k0 = (ls.getD j ky0).e := by
  rw [List.getD_eq_getElem?_getD, List.getD_eq_getElem?_getD, List.getElem?_map]
  cases ls[j]? <;> rfl
section
variable {H : Type} {enc : TypeId × Value → H} {w : World}
set_option maxRecDepth 100000 in
theorem open_kx : ∀ fuel : Nat, (∀ (cs : List Value) (x : DataW H × List MemPlace), DataW.trod enc Tryd.prog w 0 (fun _ => true) true fuel 45 cs = some x → ∃ (e : Kx) (A : Option Addr) (c : Nat), cs = kyC ⟨e, A, c⟩ ∧ OKk e ∧ KrR w A c e.l)
    ∧ (∀ (A : Option Addr) (len cap : Nat) (x : DataW H × List MemPlace), DataW.trod enc Tryd.prog w 0 (fun _ => true) true fuel 30 [.slice A len cap] = some x → ∃ l : List Kx, l.length = len ∧ KrR w A cap l) := by
  intro fuel
  induction fuel with
  | zero => exact ⟨fun cs x h => by simp [DataW.trod] at h, fun A len cap x h => by simp [DataW.trod] at h⟩
  | succ fuel ih =>
    refine ⟨fun cs x h => ?_, fun A len cap x h => ?_⟩
    · obtain ⟨xs, n, hn, hx, hl, hlen, hf⟩ := DataW.trod_struct Tryd.underlying45 h
      obtain rfl : fuel = n := by omega
      have kl : Tryd.prog.cellsOf 45 = 6 := by kernel_rfl
      have k1 : Tryd.prog.cellsOf 42 = 1 := by kernel_rfl
      have k2 : Tryd.prog.cellsOf 43 = 1 := by kernel_rfl
      have k3 : Tryd.prog.cellsOf 28 = 1 := by kernel_rfl
      have k4 : Tryd.prog.cellsOf 21 = 1 := by kernel_rfl
      have k5 : Tryd.prog.cellsOf 3 = 1 := by kernel_rfl
      have k6 : Tryd.prog.cellsOf 30 = 1 := by kernel_rfl
      rw [kl] at hl
      match cs, hl with
      | [c0, c1, c2, c3, c4, c5], _ =>
        match xs, hlen with
        | [y0, y1, y2, y3, y4, y5], _ =>
          have f0 := hf 0 _ rfl
          have f1 := hf 1 _ rfl
          have f2 := hf 2 _ rfl
          have f3 := hf 3 _ rfl
          have f4 := hf 4 _ rfl
          have f5 := hf 5 _ rfl
          simp [k1, k2, k3, k4, k5, k6] at f0 f1 f2 f3 f4 f5
          obtain ⟨a, e0, _, w0⟩ := DataW.trod_int Tryd.underlying42 f0
          obtain ⟨b, e1, _, w1⟩ := DataW.trod_int Tryd.underlying43 f1
          obtain ⟨c, e2, _, w2⟩ := DataW.trod_int Tryd.underlying28 f2
          obtain ⟨d, e3, _, w3⟩ := DataW.trod_int Tryd.underlying21 f3
          obtain ⟨v, e4, _, w4⟩ := DataW.trod_int Tryd.underlying3 f4
          injection e0 with e0
          injection e1 with e1
          injection e2 with e2
          injection e3 with e3
          injection e4 with e4
          subst e0 e1 e2 e3 e4
          have ha := u8_wfX w0
          have hb := u8_wfX w1
          have hc := u8_wfX w2
          have hd := i32_wfX w3
          have hv := i64_wf w4
          obtain ⟨a, rfl⟩ : ∃ k : Nat, a = (k : Int) := ⟨a.toNat, by omega⟩
          obtain ⟨b, rfl⟩ : ∃ k : Nat, b = (k : Int) := ⟨b.toNat, by omega⟩
          obtain ⟨c, rfl⟩ : ∃ k : Nat, c = (k : Int) := ⟨c.toNat, by omega⟩
          have hS : ∃ (A : Option Addr) (len cap : Nat), c5 = .slice A len cap := by
            rcases DataW.trod_slice Tryd.underlying30 f5 with ⟨e, _⟩ | ⟨ad, len, cap, _, _, _, _, e, _⟩
            · injection e with e; exact ⟨_, _, _, e⟩
            · injection e with e; exact ⟨_, _, _, e⟩
          obtain ⟨A, len, cap, rfl⟩ := hS
          obtain ⟨l, hll, R⟩ := ih.2 A len cap _ f5
          refine ⟨.mk a b c d v l, A, cap, ?_, ?_, R⟩
          · unfold kyC
            dsimp only [Kx.k, Kx.o, Kx.t, Kx.n, Kx.v, Kx.l]
            rw [hll]
          · exact ⟨by show a < 256; omega, by show b < 256; omega, by show c < 256; omega, hd.1, hd.2, hv.1, hv.2⟩
    · rcases DataW.trod_slice Tryd.underlying30 h with ⟨e, hx⟩ | ⟨a, l, c, elems, rest, n, hn, e, hx, _, hl, hm, hlen, hi, _, _⟩
      · injection e with e _
        injection e with e1 e2 e3
        subst e1 e2 e3
        exact ⟨[], rfl, KrR.nil w⟩
      · obtain rfl : fuel = n := by omega
        injection e with e _
        injection e with e1 e2 e3
        subst e1 e2 e3
        have kl : Tryd.prog.cellsOf 45 = 6 := by kernel_rfl
        obtain ⟨ls, hls, hp⟩ := list_of ky0 (P := fun i y => OKk y.e ∧ KxAt w (a.add (i * 6)) y.e y.A y.c ∧ KrR w y.A y.c y.e.l) len (fun i him => by
          have key := hi i him
          rw [List.getElem?_eq_getElem (by omega), kl] at key
          obtain ⟨cs, hc, ht⟩ := Option.bind_eq_some_iff.1 key
          obtain ⟨_, hcl, hat⟩ := World.cells?_some hc
          obtain ⟨y, B, d, rfl, ok, R⟩ := ih.1 cs _ ht
          refine ⟨⟨y, B, d⟩, ok, ?_, R⟩
          have hcell : ∀ j, j < 6 → w.cell? ((a.add (i * 6)).add j) = (kyC ⟨y, B, d⟩)[j]? := fun j hj => hat j hj
          have h0 := hcell 0 (by omega)
          rw [add_add_, Nat.add_zero] at h0
          have hs : ∀ j, j < 5 → w.cell? ⟨(a.add (i * 6)).block, (a.add (i * 6)).off + (j + 1), none⟩ = (kyC ⟨y, B, d⟩)[j + 1]? := fun j hj => by
            have := hcell (j + 1) (by omega)
            rwa [add_succ_] at this
          exact ⟨h0, hs 0 (by omega), hs 1 (by omega), hs 2 (by omega), hs 3 (by omega), hs 4 (by omega)⟩)
        refine ⟨ls.map Ky.e, by rw [List.length_map, hls], ?_⟩
        refine .mk (fun j => (ls.getD j ky0).A) (fun j => (ls.getD j ky0).c) (by rw [List.length_map]; omega) hm (fun j hj => ?_) (fun j hj => ⟨_, rfl, ?_⟩) (fun j hj => ?_)
        all_goals
          rw [List.length_map, hls] at hj
          rw [ky_map]
        · exact (hp j hj).1
        · exact (hp j hj).2.1
        · exact (hp j hj).2.2
theorem open_wor {fuel : Nat} {A : Option Addr} {len cap : Nat} {x : DataW H × List MemPlace} (h : DataW.trod enc Tryd.prog w 0 (fun _ => true) true fuel 54 [.slice A len cap] = some x) : ∃ l : List Int, l.length = len ∧ WoR w A cap l := by
  rcases DataW.trod_slice Tryd.underlying54 h with ⟨e, hx⟩ | ⟨a, l, c, elems, rest, n, hn, e, hx, _, hl, hm, hlen, hi, _, _⟩
  · injection e with e _
    injection e with e1 e2 e3
    subst e1 e2 e3
    exact ⟨[], rfl, WoR.nil w⟩
  · injection e with e _
    injection e with e1 e2 e3
    subst e1 e2 e3
    have kl : Tryd.prog.cellsOf 21 = 1 := by kernel_rfl
    obtain ⟨ls, hls, hp⟩ := list_of (0 : Int) (P := fun i v => w.cell? (a.add i) = some (.int .i32 v) ∧ inW v) len (fun i him => by
      have key := hi i him
      rw [List.getElem?_eq_getElem (by omega), kl, Nat.mul_one] at key
      obtain ⟨cs, hc, ht⟩ := Option.bind_eq_some_iff.1 key
      obtain ⟨_, hcl, hat⟩ := World.cells?_some hc
      obtain ⟨v, e4, _, w4⟩ := DataW.trod_int Tryd.underlying21 ht
      subst e4
      exact ⟨v, hat 0 (by omega), i32_wfX w4⟩)
    refine ⟨ls, hls, by omega, hm, fun j hj => ⟨a, rfl, (hp j (by omega)).1⟩, fun x hx => ?_⟩
    obtain ⟨j, hj, rfl⟩ := List.getElem_of_mem hx
    have := (hp j (by omega)).2
    rwa [List.getD_eq_getElem?_getD, List.getElem?_eq_getElem hj] at this
/-- A slice's own weight is among those of what holds it. -/
theorem wt_slice {t e : TypeId} (ht : Tryd.prog.underlying t = some (.slice e)) {el sp : List (DataW H)} (h : ((DataW.slice el sp).weights Tryd.prog t).all (· ≤ reachBytes) = true) : (el.length + sp.length) * Tryd.prog.bytesOf e ≤ reachBytes ∧ ∀ d ∈ el, (d.weights Tryd.prog e).all (· ≤ reachBytes) = true := by
  unfold DataW.weights at h
  rw [ht] at h
  simp only [List.all_cons, List.all_append, Bool.and_eq_true, decide_eq_true_eq] at h
  refine ⟨h.1, ?_⟩
  have h2 := h.2.1
  clear h
  induction el with
  | nil => intro d hd; cases hd
  | cons x r ih =>
    intro d hd
    unfold DataW.weightsAll at h2
    rw [List.all_append, Bool.and_eq_true] at h2
    rcases List.mem_cons.1 hd with rfl | hd
    · exact h2.1
    · exact ih h2.2 d hd
theorem open_store {fuel : Nat} {A : Option Addr} {len cap : Nat} {x : DataW H × List MemPlace} (h : DataW.trod enc Tryd.prog w 0 (fun _ => true) true fuel 23 [.slice A len cap] = some x) (hw : (x.1.weights Tryd.prog 23).all (· ≤ reachBytes) = true) : ∃ s : St, s.length = len ∧ StR w A cap s ∧ StM s := by
  rcases DataW.trod_slice Tryd.underlying23 h with ⟨e, hx⟩ | ⟨a, l, c, elems, rest, n, hn, e, hx, _, hl, hm, hlen, hi, _, _⟩
  · injection e with e _
    injection e with e1 e2 e3
    subst e1 e2 e3
    exact ⟨[], rfl, StR.nil w, ⟨fun l hl => (by cases hl), by decide⟩⟩
  · injection e with e _
    injection e with e1 e2 e3
    subst e1 e2 e3
    subst hx
    have kl : Tryd.prog.cellsOf 54 = 1 := by kernel_rfl
    have b1 : Tryd.prog.bytesOf 54 = 24 := by kernel_rfl
    have b2 : Tryd.prog.bytesOf 21 = 4 := by kernel_rfl
    obtain ⟨g1, g2⟩ := wt_slice Tryd.underlying23 hw
    rw [b1, List.length_map] at g1
    unfold reachBytes at g1
    obtain ⟨ls, hls, hp⟩ := list_of ([] : List Int) (P := fun i l => (∃ B n d, l.length = n ∧ w.cell? (a.add i) = some (.slice B n d) ∧ WoR w B d l) ∧ l.length * 4 ≤ 140737488355328) len (fun i him => by
      have key := hi i him
      have hie : i < elems.length := by omega
      rw [List.getElem?_eq_getElem hie, kl, Nat.mul_one] at key
      obtain ⟨cs, hc, ht⟩ := Option.bind_eq_some_iff.1 key
      obtain ⟨_, hcl, hat⟩ := World.cells?_some hc
      have wd := g2 elems[i].1 (List.mem_map.2 ⟨elems[i], List.getElem_mem _, rfl⟩)
      have hS : ∃ B n d, cs = [.slice B n d] := by
        rcases DataW.trod_slice Tryd.underlying54 ht with ⟨e, _⟩ | ⟨_, _, _, _, _, _, _, e, _⟩
        · exact ⟨_, _, _, e⟩
        · exact ⟨_, _, _, e⟩
      obtain ⟨B, m, d, rfl⟩ := hS
      obtain ⟨l, hll, R⟩ := open_wor ht
      refine ⟨l, ⟨B, m, d, hll, hat 0 (by omega), R⟩, ?_⟩
      rcases DataW.trod_slice Tryd.underlying54 ht with ⟨e, _⟩ | ⟨_, l', c', el2, rs2, _, _, e, hx2, _, _, _, hlen2, _⟩
      · injection e with e _
        injection e with e1 e2 e3
        omega
      · injection e with e _
        injection e with e1 e2 e3
        rw [hx2] at wd
        obtain ⟨q1, _⟩ := wt_slice Tryd.underlying54 wd
        rw [b2, List.length_map] at q1
        unfold reachBytes at q1
        omega)
    refine ⟨ls, hls, ⟨by omega, hm, fun j hj => ⟨a, rfl, (hp j (by omega)).1⟩⟩, fun l hl => ?_, by omega⟩
    obtain ⟨j, hj, rfl⟩ := List.getElem_of_mem hl
    have := (hp j (by omega)).2
    rwa [List.getD_eq_getElem?_getD, List.getElem?_eq_getElem hj] at this
set_option maxRecDepth 100000 in
theorem open_vars {fuel : Nat} {A : Option Addr} {len cap : Nat} {x : DataW H × List MemPlace} (h : DataW.trod enc Tryd.prog w 0 (fun _ => true) true fuel 22 [.slice A len cap] = some x) : ∃ l : List Vr, l.length = len ∧ VaR w A cap l := by
  rcases DataW.trod_slice Tryd.underlying22 h with ⟨e, hx⟩ | ⟨a, l, c, elems, rest, n, hn, e, hx, _, hl, hm, hlen, hi, _, _⟩
  · injection e with e _
    injection e with e1 e2 e3
    subst e1 e2 e3
    exact ⟨[], rfl, Nat.le_refl _, by simp [maxLen], fun j hj => absurd hj (by simp), fun x hx => (by cases hx)⟩
  · injection e with e _
    injection e with e1 e2 e3
    subst e1 e2 e3
    have kl : Tryd.prog.cellsOf 79 = 2 := by kernel_rfl
    have k1 : Tryd.prog.cellsOf 28 = 1 := by kernel_rfl
    have k2 : Tryd.prog.cellsOf 3 = 1 := by kernel_rfl
    obtain ⟨ls, hls, hp⟩ := list_of v0 (P := fun i (v : Vr) => (w.cell? (a.add (i * 2)) = some (.int .u8 (v.1 : Int)) ∧ w.cell? ⟨(a.add (i * 2)).block, (a.add (i * 2)).off + 1, none⟩ = some (.int .i64 v.2)) ∧ v.1 < 256 ∧ -9223372036854775808 ≤ v.2 ∧ v.2 ≤ 9223372036854775807) len (fun i him => by
      have key := hi i him
      rw [List.getElem?_eq_getElem (by omega), kl] at key
      obtain ⟨cs, hc, ht⟩ := Option.bind_eq_some_iff.1 key
      obtain ⟨_, hcl, hat⟩ := World.cells?_some hc
      obtain ⟨xs, m, hn, hx, hl, hlen, hf⟩ := DataW.trod_struct Tryd.underlying79 ht
      rw [kl] at hl
      match cs, hl with
      | [c0, c1], _ =>
        match xs, hlen with
        | [y0, y1], _ =>
          have f0 := hf 0 _ rfl
          have f1 := hf 1 _ rfl
          simp [k1, k2] at f0 f1
          obtain ⟨p, e0, _, w0⟩ := DataW.trod_int Tryd.underlying28 f0
          obtain ⟨q, e1, _, w1⟩ := DataW.trod_int Tryd.underlying3 f1
          injection e0 with e0
          injection e1 with e1
          subst e0 e1
          have ha := u8_wfX w0
          obtain ⟨p, rfl⟩ : ∃ k : Nat, p = (k : Int) := ⟨p.toNat, by omega⟩
          have h0 := hat 0 (by omega)
          have h1 := hat 1 (by omega)
          rw [add_add_, Nat.add_zero] at h0
          rw [add_succ_] at h1
          exact ⟨(p, q), ⟨h0, h1⟩, by omega, i64_wf w1⟩)
    refine ⟨ls, hls, by omega, hm, fun j hj => ⟨a, rfl, (hp j (by omega)).1.1, (hp j (by omega)).1.2⟩, fun x hx => ?_⟩
    obtain ⟨j, hj, rfl⟩ := List.getElem_of_mem hx
    have := (hp j (by omega)).2
    rwa [List.getD_eq_getElem?_getD, List.getElem?_eq_getElem hj] at this
/-- A parameter's own weights among those of all. -/
theorem wt_each {P : Program} {ts : List TypeId} {ds : List (DataW H)} (h : (DataW.weightsEach P ts ds).all (· ≤ reachBytes) = true) {j : Nat} {t : TypeId} {d : DataW H} (ht : ts[j]? = some t) (hd : ds[j]? = some d) : (d.weights P t).all (· ≤ reachBytes) = true :=
  List.all_eq_true.2 fun n hn => List.all_eq_true.1 h n (DataW.weights_mem_each ht hd n hn)
end
/-! ### The table -/
def evD {H : Type} (r : Ev) : DataW H := .agg [.lit (.int .i32 r.1), .lit (.int .i32 r.2.1), .lit (.int .i64 r.2.2.1), .lit (.int .u8 (r.2.2.2.1 : Int)), .lit (.int .u8 (r.2.2.2.2.1 : Int)), .lit (.int .u8 (r.2.2.2.2.2.1 : Int)), .lit (.int .u8 (r.2.2.2.2.2.2.1 : Int)), .lit (.int .i64 (r.2.2.2.2.2.2.2 : Int))]
set_option maxRecDepth 100000 in
theorem cells_of_ev {H : Type} {enc : TypeId × Value → H} {w : World} {base : Nat} {sp : Nat → Bool} {held : Bool} {fuel : Nat} {cs : List Value} {ls : List Ev} {p : List MemPlace}
    (h : DataW.trod enc Tryd.prog w base sp held fuel 133 cs = some (.agg (ls.map evD), p)) : cs = ls.flatMap evC := by
  have hct : Tryd.prog.cellsOf 133 = 56 := by kernel_rfl
  have hce : Tryd.prog.cellsOf 132 = 8 := by kernel_rfl
  have hc3 : Tryd.prog.cellsOf 21 = 1 := by kernel_rfl
  have hc8 : Tryd.prog.cellsOf 43 = 1 := by kernel_rfl
  have hc9 : Tryd.prog.cellsOf 28 = 1 := by kernel_rfl
  have hci : Tryd.prog.cellsOf 3 = 1 := by kernel_rfl
  obtain ⟨xs, m, _, hx, hl, hxl, hall⟩ := DataW.trod_array Tryd.underlying133 h
  rw [hce] at hall
  rw [hct] at hl
  have hxs : xs.map (·.1) = ls.map fun r => (evD r : DataW H) := by
    have := congrArg Prod.fst hx
    simpa using this.symm
  have hll : ls.length = 7 := by
    have := congrArg List.length hxs
    simp at this
    omega
  have key : ∀ i, i < 7 → ∃ r, ls[i]? = some r ∧ (cs.drop (i * 8)).take 8 = evC r := by
    intro i hi
    have hf := hall i hi
    obtain ⟨b, hb⟩ : ∃ b, xs[i]? = some b := ⟨xs[i], List.getElem?_eq_getElem (by omega)⟩
    rw [hb] at hf
    obtain ⟨ys, m', _, rfl, hcl, hyl, hfs⟩ := DataW.trod_struct Tryd.underlying132 hf
    rw [hce] at hcl
    obtain ⟨y0, y1, y2, y3, y4, y5, y6, y7, rfl⟩ : ∃ y0 y1 y2 y3 y4 y5 y6 y7, ys = [y0, y1, y2, y3, y4, y5, y6, y7] := by
      match ys, hyl with
      | [a, b, c, d, e, f, g, h], _ => exact ⟨a, b, c, d, e, f, g, h, rfl⟩
    have f0 := hfs 0 _ rfl
    have f1 := hfs 1 _ rfl
    have f2 := hfs 2 _ rfl
    have f3 := hfs 3 _ rfl
    have f4 := hfs 4 _ rfl
    have f5 := hfs 5 _ rfl
    have f6 := hfs 6 _ rfl
    have f7 := hfs 7 _ rfl
    simp [hc3, hc8, hc9, hci] at f0 f1 f2 f3 f4 f5 f6 f7
    obtain ⟨u0, c0, e0, _⟩ := DataW.trod_int Tryd.underlying21 f0
    obtain ⟨u1, c1, e1, _⟩ := DataW.trod_int Tryd.underlying21 f1
    obtain ⟨u2, c2, e2, _⟩ := DataW.trod_int Tryd.underlying3 f2
    obtain ⟨u3, c3, e3, _⟩ := DataW.trod_int Tryd.underlying43 f3
    obtain ⟨u4, c4, e4, _⟩ := DataW.trod_int Tryd.underlying43 f4
    obtain ⟨u5, c5, e5, _⟩ := DataW.trod_int Tryd.underlying28 f5
    obtain ⟨u6, c6, e6, _⟩ := DataW.trod_int Tryd.underlying28 f6
    obtain ⟨u7, c7, e7, _⟩ := DataW.trod_int Tryd.underlying3 f7
    have h2 : (xs.map (·.1))[i]? = some (DataW.agg ([y0, y1, y2, y3, y4, y5, y6, y7].map (·.1)) : DataW H) := by simp [hb]
    rw [hxs] at h2
    simp only [List.getElem?_map, Option.map_eq_some_iff] at h2
    obtain ⟨r, hr, hr2⟩ := h2
    refine ⟨r, hr, ?_⟩
    simp [evD, e0, e1, e2, e3, e4, e5, e6, e7] at hr2
    obtain ⟨g0, g1, g2, g3, g4, g5, g6, g7⟩ := hr2
    obtain ⟨zs, hz⟩ : ∃ zs, List.take 8 (List.drop (i * 8) cs) = zs := ⟨_, rfl⟩
    rw [hz] at c0 c1 c2 c3 c4 c5 c6 c7 hcl ⊢
    clear hz f0 f1 f2 f3 f4 f5 f6 f7 hfs hf hall
    match zs, hcl with
    | [a, b, c, d, e, f, g, h], _ =>
      simp at c0 c1 c2 c3 c4 c5 c6 c7
      subst c0 c1 c2 c3 c4 c5 c6 c7
      unfold evC
      rw [g0, g1, g2, g3, g4, g5, g6, g7]
  apply List.ext_getElem?
  intro j
  by_cases hj : j < 56
  · obtain ⟨r, hr, hc⟩ := key (j / 8) (by omega)
    have hg : cs[j / 8 * 8 + j % 8]? = (evC r)[j % 8]? := by
      have hq : j % 8 < 8 := Nat.mod_lt _ (by decide)
      have := congrArg (·[j % 8]?) hc
      rw [← this]
      simp [List.getElem?_drop, hq]
    have he : j / 8 * 8 + j % 8 = j := by omega
    have ha := evC_at ls (j / 8) (j % 8) (by omega) (Nat.mod_lt _ (by decide))
    rw [he] at hg ha
    rw [hg, ha, show ls.getD (j / 8) ev0 = r by rw [List.getD_eq_getElem?_getD, hr]; rfl]
  · rw [List.getElem?_eq_none (by omega), List.getElem?_eq_none]
    have hfl : ∀ l : List Ev, (l.flatMap evC).length = l.length * 8 := by
      intro l
      induction l with
      | nil => rfl
      | cons x l ih => rw [List.flatMap_cons, List.length_append, ih, List.length_cons]; show 8 + _ = _; omega
    rw [hfl]
    omega
theorem laidE {H : Type} : (Rows.laid_transputer_eval_forms : DataW H) = .agg (evT.map evD) := by kernel_rfl
theorem ttE : (Tryd.prog.globals[0]?).map (·.type) = some 133 := by kernel_rfl
theorem e_of {W : World} {rest : List (String × DataW Unit)} (h : laidMet Tryd.prog (("transputer/eval.forms", Rows.laid_transputer_eval_forms) :: rest) W) : W.var? Tryd.prog "transputer/eval.forms" = some (evT.flatMap evC).toArray := by
  obtain ⟨ps, ⟨g', t', cs, fuel, p, q, hg', ht', hvar, hd, _, _⟩, _⟩ := h
  obtain rfl := Option.some.inj (gE.symm.trans hg')
  obtain rfl := Option.some.inj (ttE.symm.trans ht')
  rw [laidE] at hd
  have hc := cells_of_ev hd
  rw [hvar, ← hc]
theorem table_17 {W : World} (h : laidMet Tryd.prog [("transputer/eval.forms", Rows.laid_transputer_eval_forms)] W) : T17 W := ⟨e_of h⟩
end Go.Proofs.YtblckajejohlbaaDoor
