/- The laws' helpers two and not, the new tree's blocks told; boxes that are made somewhere among calls. -/
import Derived.Test.YtblckajejohlbaaDoorM09
import Derived.Test.YtblckajejohlbaaDoorM01
set_option linter.unusedVariables false
set_option linter.unusedSimpArgs false
set_option linter.unusedVariables false
set_option linter.unusedSimpArgs false
namespace Go.Proofs.YtblckajejohlbaaDoor
open Go Go.RowKit L8 L22 L17

def AnM (w : World) (N : Nat → Prop) (f : Kx) (e : Ending) (w' : World) : Prop := ∃ A c, e = .returned (kxV f A f.l.length c) ∧ KrN w' (fun k => N k ∨ w.heap.size ≤ k) A c f.l ∧ Below w.heap.size w w'
theorem KrN.mtwo {W : World} {N : Nat → Prop} {g d e : Nat} {t : TypeId} {y z : Kx} {B C : Option Addr} (h : BoxS W g t (prK y z B d C e)) (hg : N g) (ok : OKk y) (ok2 : OKk z) (ty : KrN W N B d y.l) (tz : KrN W N C e z.l) : KrN W N (some ⟨g, 0, none⟩) 2 [y, z] := by
  refine .mk (fun j => if j = 0 then B else C) (fun j => if j = 0 then d else e) (Nat.le_refl _) (by simp [maxLen]) (fun j hj => ?_) (fun j hj => ?_) (fun j hj => ?_)
  all_goals (have hj2 : j < 2 := hj; rcases (show j = 0 ∨ j = 1 by omega) with rfl | rfl)
  · exact ok
  · exact ok2
  · exact ⟨_, rfl, hg, (h.cell 0).trans rfl, (h.cell 1).trans rfl, (h.cell 2).trans rfl, (h.cell 3).trans rfl, (h.cell 4).trans rfl, (h.cell 5).trans rfl⟩
  · exact ⟨_, rfl, hg, (h.cell 6).trans rfl, (h.cell 7).trans rfl, (h.cell 8).trans rfl, (h.cell 9).trans rfl, (h.cell 10).trans rfl, (h.cell 11).trans rfl⟩
  · exact ty
  · exact tz
set_option maxRecDepth 100000 in
set_option maxHeartbeats 4000000 in
theorem mtwo_N (N : Nat → Prop) (o : Nat) (y z : Kx) (A B : Option Addr) (n m c d : Nat) (w : World) (hn : y.l.length = n) (hm : z.l.length = m) (Ry : KrN w N A c y.l) (Rz : KrN w N B d z.l) (oky : OKk y) (okz : OKk z) : Calls Tryd.prog 32 #[.int .u8 (o : Int), kxV y A n c, kxV z B m d] w (AnM w N (k2 o y z)) := by
  have hP := box6 ((boxS_new w 45 (kxC y A n c)).alloc (.cells (kxC z B m d) 45))
  have hQ := box6 (boxS_new (w.alloc (.cells (kxC y A n c) 45)) 45 (kxC z B m d))
  subst hn hm
  have HE : Hid (∀ (X : World) (cs : TypeId), Below w.heap.size w X → KrN (X.alloc (.cells (prK y z A c B d) cs)) (fun k => N k ∨ w.heap.size ≤ k) (some ⟨X.heap.size, 0, none⟩) 2 [y, z]) := Lib.hid fun X cs b => KrN.mtwo (boxS_new X cs (prK y z A c B d)) (.inr b.size) oky okz (((Ry.keep b).keep (bal (b0 X) _)).mono fun _ _ h => .inl h) (((Rz.keep b).keep (bal (b0 X) _)).mono fun _ _ h => .inl h)
  unfold AnM
  clear Ry Rz oky okz
  dsimp only [kxV, kxC] at *
  rw [World.size_alloc] at hQ
  obtain ⟨p0, p1, p2, p3, p4, p5⟩ := hP
  obtain ⟨q0, q1, q2, q3, q4, q5⟩ := hQ
  go_enter Tryd.func32, Tryd.ntmps32
  go_wp2
  obtain ⟨r0, r1, r2, r3, r4, r5⟩ := box6 ((boxS_new ((w.alloc (.cells #[.int .u8 (y.k : Int), .int .u8 (y.o : Int), .int .u8 (y.t : Int), .int .i32 y.n, .int .i64 y.v, .slice A y.l.length c] 45)).alloc (.cells #[.int .u8 (z.k : Int), .int .u8 (z.o : Int), .int .u8 (z.t : Int), .int .i32 z.n, .int .i64 z.v, .slice B z.l.length d] 45)) 45 #[.int .u8 5, .int .u8 (o : Int), .int .u8 0, .int .i32 0, .int .i64 0, .slice (some ⟨w.heap.size + 1 + 1 + 1, 0, none⟩) 2 2]).alloc (.cells (prK y z A c B d) 45))
  have h1 := bal (bal (bal (b0 w) (.cells #[.int .u8 (y.k : Int), .int .u8 (y.o : Int), .int .u8 (y.t : Int), .int .i32 y.n, .int .i64 y.v, .slice A y.l.length c] 45)) (.cells #[.int .u8 (z.k : Int), .int .u8 (z.o : Int), .int .u8 (z.t : Int), .int .i32 z.n, .int .i64 z.v, .slice B z.l.length d] 45)) (.cells #[.int .u8 5, .int .u8 (o : Int), .int .u8 0, .int .i32 0, .int .i64 0, .slice (some ⟨w.heap.size + 1 + 1 + 1, 0, none⟩) 2 2] 45)
  have h2 := HE.out _ 45 h1
  unfold prK at *
  simp only [World.size_alloc] at r0 r1 r2 r3 r4 r5 h2
  refine bodyPost_ret (v := .agg #[.int .u8 5, .int .u8 (o : Int), .int .u8 0, .int .i32 0, .int .i64 0, .slice (some ⟨w.heap.size + 1 + 1 + 1, 0, none⟩) 2 2]) (by simp [results, Tryd.results32, go_sem, r0, r1, r2, r3, r4, r5]) rfl ⟨_, _, rfl, h2, bal h1 _⟩
theorem KrN.mone {W : World} {N : Nat → Prop} {g d : Nat} {t : TypeId} {y : Kx} {B : Option Addr} (h : BoxS W g t (kxC y B y.l.length d)) (hg : N g) (ok : OKk y) (ty : KrN W N B d y.l) : KrN W N (some ⟨g, 0, none⟩) 1 [y] := by
  refine .mk (fun j => B) (fun j => d) (Nat.le_refl _) (by simp [maxLen]) (fun j hj => ?_) (fun j hj => ?_) (fun j hj => ?_)
  all_goals (have hj2 : j < 1 := hj; obtain rfl : j = 0 := by omega)
  · exact ok
  · exact ⟨_, rfl, hg, (h.cell 0).trans rfl, (h.cell 1).trans rfl, (h.cell 2).trans rfl, (h.cell 3).trans rfl, (h.cell 4).trans rfl, (h.cell 5).trans rfl⟩
  · exact ty
set_option maxRecDepth 100000 in
set_option maxHeartbeats 4000000 in
theorem mnot_N (N : Nat → Prop) (y : Kx) (A : Option Addr) (n c : Nat) (w : World) (hn : y.l.length = n) (Ry : KrN w N A c y.l) (oky : OKk y) : Calls Tryd.prog 33 #[kxV y A n c] w (AnM w N (k1 26 y)) := by
  have hP := box6 (boxS_new w 45 (kxC y A n c))
  subst hn
  have HE : Hid (∀ (X : World), Below w.heap.size w X → KrN (X.alloc (.cells (kxC y A y.l.length c) 45)) (fun k => N k ∨ w.heap.size ≤ k) (some ⟨X.heap.size, 0, none⟩) 1 [y]) := Lib.hid fun X b => KrN.mone (boxS_new X _ _) (.inr b.size) oky (((Ry.keep b).keep (bal (b0 X) _)).mono fun _ _ h => .inl h)
  unfold AnM
  clear Ry oky
  dsimp only [kxV, kxC] at *
  obtain ⟨p0, p1, p2, p3, p4, p5⟩ := hP
  go_enter Tryd.func33, Tryd.ntmps33
  go_wp2
  obtain ⟨r0, r1, r2, r3, r4, r5⟩ := box6 ((boxS_new (w.alloc (.cells #[.int .u8 (y.k : Int), .int .u8 (y.o : Int), .int .u8 (y.t : Int), .int .i32 y.n, .int .i64 y.v, .slice A y.l.length c] 45)) 45 #[.int .u8 4, .int .u8 26, .int .u8 0, .int .i32 0, .int .i64 0, .slice (some ⟨w.heap.size + 1 + 1, 0, none⟩) 1 1]).alloc (.cells (kxC y A y.l.length c) 45))
  have h1 := bal (bal (b0 w) (.cells #[.int .u8 (y.k : Int), .int .u8 (y.o : Int), .int .u8 (y.t : Int), .int .i32 y.n, .int .i64 y.v, .slice A y.l.length c] 45)) (.cells #[.int .u8 4, .int .u8 26, .int .u8 0, .int .i32 0, .int .i64 0, .slice (some ⟨w.heap.size + 1 + 1, 0, none⟩) 1 1] 45)
  have h2 := HE.out _ h1
  unfold kxC at *
  simp only [World.size_alloc] at r0 r1 r2 r3 r4 r5 h2
  refine bodyPost_ret (v := .agg #[.int .u8 4, .int .u8 26, .int .u8 0, .int .i32 0, .int .i64 0, .slice (some ⟨w.heap.size + 1 + 1, 0, none⟩) 1 1]) (by simp [results, Tryd.results33, go_sem, r0, r1, r2, r3, r4, r5]) rfl ⟨_, _, rfl, h2, bal h1 _⟩
/-! ### Boxes that are made somewhere among the calls -/
def kz6 : Array Value := #[.int .u8 0, .int .u8 0, .int .u8 0, .int .i32 0, .int .i64 0, .slice none 0 0]
/-- Not in either box. -/
def NN (o p : Option Nat) (k : Nat) : Prop := some k ≠ o ∧ some k ≠ p
/-- Two boxes, made or not yet. -/
structure FlX (w X : World) (o p : Option Nat) : Prop where
  b : Below w.heap.size w X
  a9 : ∀ k, o = some k → w.heap.size ≤ k ∧ BoxS X k 45 kz6
  a10 : ∀ k, p = some k → w.heap.size ≤ k ∧ BoxS X k 45 kz6
  ne : ∀ k, o = some k → p ≠ some k
theorem FlX.new {w X : World} (b : Below w.heap.size w X) : FlX w X none none := ⟨b, (fun _ h => by cases h), (fun _ h => by cases h), (fun _ h => by cases h)⟩
theorem FlX.step {w X Y : World} {o p : Option Nat} (h : FlX w X o p) (b : Below X.heap.size X Y) : FlX w Y o p := ⟨blw h.b b, fun k e => ⟨(h.a9 k e).1, (h.a9 k e).2.below b⟩, fun k e => ⟨(h.a10 k e).1, (h.a10 k e).2.below b⟩, h.ne⟩
theorem FlX.al9 {w X : World} {p : Option Nat} (h : FlX w X none p) : FlX w (X.alloc (.cells kz6 45)) (some X.heap.size) p :=
  ⟨bal h.b _, fun k e => by injection e with e; subst e; exact ⟨h.b.size, boxS_new X _ _⟩, fun k e => ⟨(h.a10 k e).1, (h.a10 k e).2.alloc _⟩, fun k e h2 => by
    injection e with e; subst e
    have := (h.a10 _ h2).2.lt
    omega⟩
theorem FlX.al10 {w X : World} {o : Option Nat} (h : FlX w X o none) : FlX w (X.alloc (.cells kz6 45)) o (some X.heap.size) :=
  ⟨bal h.b _, fun k e => ⟨(h.a9 k e).1, (h.a9 k e).2.alloc _⟩, fun k e => by injection e with e; subst e; exact ⟨h.b.size, boxS_new X _ _⟩, fun k e h2 => by
    injection h2 with h2; subst h2
    have := (h.a9 _ e).2.lt
    omega⟩
theorem FlX.lt9 {w X : World} {o p : Option Nat} (h : FlX w X o p) {k : Nat} (hk : X.heap.size ≤ k) : NN o p k :=
  ⟨fun e => by have := (h.a9 k e.symm).2.lt; omega, fun e => by have := (h.a10 k e.symm).2.lt; omega⟩
theorem FlX.call {w X Y : World} {o p : Option Nat} (h : FlX w X o p) {A : Option Addr} {c : Nat} {l : List Kx} (R : KrN Y (fun k => NN o p k ∨ X.heap.size ≤ k) A c l) : KrN Y (NN o p) A c l := R.mono fun k _ r => r.elim id fun r => h.lt9 r
theorem FlX.base {w X : World} {o p : Option Nat} (h : FlX w X o p) {A : Option Addr} {c : Nat} {l : List Kx} (R : KrR w A c l) : KrN X (NN o p) A c l :=
  (R.toN (N := NN o p) fun k hk => ⟨fun e => by have := (h.a9 k e.symm).1; omega, fun e => by have := (h.a10 k e.symm).1; omega⟩).keep h.b
theorem kr_9 {X : World} {p : Option Nat} {A : Option Addr} {c : Nat} {l : List Kx} (R : KrN X (NN none p) A c l) (o : Obj) : KrN (X.alloc o) (NN (some X.heap.size) p) A c l :=
  (R.mono (M := NN (some X.heap.size) p) fun k hk r => ⟨fun e => by injection e with e; omega, r.2⟩).keep (bal (b0 X) _)
theorem kr_10 {X : World} {q : Option Nat} {A : Option Addr} {c : Nat} {l : List Kx} (R : KrN X (NN q none) A c l) (o : Obj) : KrN (X.alloc o) (NN q (some X.heap.size)) A c l :=
  (R.mono (M := NN q (some X.heap.size)) fun k hk r => ⟨r.1, fun e => by injection e with e; omega⟩).keep (bal (b0 X) _)
/-- Either box is written. -/
theorem kr_put {X : World} {o p : Option Nat} {g : Nat} {A : Option Addr} {c : Nat} {l : List Kx} (R : KrN X (NN o p) A c l) (hg : o = some g ∨ p = some g) (v0 v1 v2 v3 v4 v5 : Value) : KrN (set6 X g v0 v1 v2 v3 v4 v5) (NN o p) A c l :=
  R.fr (fr_set6 X g v0 v1 v2 v3 v4 v5) fun k _ r e => by
    subst e
    rcases hg with h | h
    · exact r.1 h.symm
    · exact r.2 h.symm
end Go.Proofs.YtblckajejohlbaaDoor
