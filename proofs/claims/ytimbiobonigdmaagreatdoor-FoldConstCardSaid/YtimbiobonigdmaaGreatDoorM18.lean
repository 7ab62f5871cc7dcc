/- The laws' helpers: number, name, two, val, declared, comes, fails. -/
import Derived.Test.YtimbiobonigdmaaGreatDoorM17
import Derived.Test.YtimbiobonigdmaaGreatDoorM12
set_option linter.unusedVariables false
set_option linter.unusedSimpArgs false
set_option linter.unusedVariables false
set_option linter.unusedSimpArgs false
namespace Go.Proofs.YtimbiobonigdmaaGreatDoor
open Go Go.RowKit L8 L10 L14

/-- An answer that is a tree. -/
def AnE (w : World) (f : Ex) (e : Ending) (w' : World) : Prop := ∃ A c, e = .returned (exV f A f.l.length c) ∧ TrR w' A c f.l ∧ Below w.heap.size w w'
def nameE (s : Bs) : Ex := .mk 4 0 0 0 s []
def twoE (o : Nat) (y z : Ex) : Ex := .mk 7 o 0 0 [] [y, z]
theorem nul_str : strOf [] = ⟨#[]⟩ := rfl
theorem number_any (v : Int) (w : World) : Calls Tryz.prog 15 #[.int .i32 v] w (fun e w' => e = .returned (exV (litE 1 v) none 0 0) ∧ Below w.heap.size w w') := by
  go_enter Tryz.func15, Tryz.ntmps15
  go_wp2
  obtain ⟨p0, p1, p2, p3, p4, p5⟩ := box6 (boxS_new w 27 #[.int .u8 1, .int .u8 0, .int .u8 0, .int .i32 v, .string ⟨#[]⟩, .slice none 0 0])
  refine bodyPost_ret (v := .agg #[.int .u8 1, .int .u8 0, .int .u8 0, .int .i32 v, .string ⟨#[]⟩, .slice none 0 0]) (by simp [results, Tryz.results15, go_sem, p0, p1, p2, p3, p4, p5]) rfl ⟨rfl, bal (b0 w) _⟩
theorem name_any (s : Bs) (w : World) : Calls Tryz.prog 13 #[.string (strOf s)] w (fun e w' => e = .returned (exV (nameE s) none 0 0) ∧ Below w.heap.size w w') := by
  have e1 : exV (nameE s) none 0 0 = .agg #[.int .u8 4, .int .u8 0, .int .u8 0, .int .i32 0, .string (strOf s), .slice none 0 0] := rfl
  rw [e1]
  clear e1
  generalize strOf s = S
  go_enter Tryz.func13, Tryz.ntmps13
  go_wp2
  obtain ⟨p0, p1, p2, p3, p4, p5⟩ := box6 (boxS_new w 27 #[.int .u8 4, .int .u8 0, .int .u8 0, .int .i32 0, .string S, .slice none 0 0])
  refine bodyPost_ret (v := .agg #[.int .u8 4, .int .u8 0, .int .u8 0, .int .i32 0, .string S, .slice none 0 0]) (by simp [results, Tryz.results13, go_sem, p0, p1, p2, p3, p4, p5]) rfl ⟨rfl, bal (b0 w) _⟩
def prC (y z : Ex) (B : Option Addr) (d : Nat) (C : Option Addr) (e : Nat) : Array Value := #[.int .u8 (y.k : Int), .int .u8 (y.o : Int), .int .u8 (y.t : Int), .int .i32 y.n, .string (strOf y.s), .slice B y.l.length d, .int .u8 (z.k : Int), .int .u8 (z.o : Int), .int .u8 (z.t : Int), .int .i32 z.n, .string (strOf z.s), .slice C z.l.length e]
theorem TrR.two {W : World} {g d e : Nat} {t : TypeId} {y z : Ex} {B C : Option Addr} (h : BoxS W g t (prC y z B d C e)) (ok : OKe y) (ok2 : OKe z) (ty : TrR W B d y.l) (tz : TrR W C e z.l) : TrR W (some ⟨g, 0, none⟩) 2 [y, z] := by
  refine .mk (fun j => if j = 0 then B else C) (fun j => if j = 0 then d else e) (Nat.le_refl _) (by simp [maxLen]) (fun j hj => ?_) (fun j hj => ?_) (fun j hj => ?_)
  all_goals (have hj2 : j < 2 := hj; rcases (show j = 0 ∨ j = 1 by omega) with rfl | rfl)
  · exact ok
  · exact ok2
  · exact ⟨_, rfl, (h.cell 0).trans rfl, (h.cell 1).trans rfl, (h.cell 2).trans rfl, (h.cell 3).trans rfl, (h.cell 4).trans rfl, (h.cell 5).trans rfl⟩
  · exact ⟨_, rfl, (h.cell 6).trans rfl, (h.cell 7).trans rfl, (h.cell 8).trans rfl, (h.cell 9).trans rfl, (h.cell 10).trans rfl, (h.cell 11).trans rfl⟩
  · exact ty
  · exact tz
set_option maxRecDepth 100000 in
set_option maxHeartbeats 4000000 in
theorem two_any (o : Nat) (y z : Ex) (A B : Option Addr) (n m c d : Nat) (w : World) (hn : y.l.length = n) (hm : z.l.length = m) (Ry : TrR w A c y.l) (Rz : TrR w B d z.l) (oky : OKe y) (okz : OKe z) : Calls Tryz.prog 16 #[.int .u8 (o : Int), exV y A n c, exV z B m d] w (AnE w (twoE o y z)) := by
  have hP := box6 ((boxS_new w 27 (exC y A n c)).alloc (.cells (exC z B m d) 27))
  have hQ := box6 (boxS_new (w.alloc (.cells (exC y A n c) 27)) 27 (exC z B m d))
  subst hn hm
  have HE : Hid (∀ (X : World) (cs : TypeId), Below w.heap.size w X → TrR (X.alloc (.cells (prC y z A c B d) cs)) (some ⟨X.heap.size, 0, none⟩) 2 [y, z]) := Lib.hid fun X cs b => TrR.two (boxS_new X cs (prC y z A c B d)) oky okz ((Ry.keep b).keep (bal (b0 X) _)) ((Rz.keep b).keep (bal (b0 X) _))
  unfold AnE
  clear Ry Rz oky okz
  dsimp only [exV, exC] at *
  rw [World.size_alloc] at hQ
  obtain ⟨p0, p1, p2, p3, p4, p5⟩ := hP
  obtain ⟨q0, q1, q2, q3, q4, q5⟩ := hQ
  go_enter Tryz.func16, Tryz.ntmps16
  go_wp2
  obtain ⟨r0, r1, r2, r3, r4, r5⟩ := box6 ((boxS_new ((w.alloc (.cells #[.int .u8 (y.k : Int), .int .u8 (y.o : Int), .int .u8 (y.t : Int), .int .i32 y.n, .string (strOf y.s), .slice A y.l.length c] 27)).alloc (.cells #[.int .u8 (z.k : Int), .int .u8 (z.o : Int), .int .u8 (z.t : Int), .int .i32 z.n, .string (strOf z.s), .slice B z.l.length d] 27)) 27 #[.int .u8 7, .int .u8 (o : Int), .int .u8 0, .int .i32 0, .string ⟨#[]⟩, .slice (some ⟨w.heap.size + 1 + 1 + 1, 0, none⟩) 2 2]).alloc (.cells (prC y z A c B d) 27))
  have h1 := bal (bal (bal (b0 w) (.cells #[.int .u8 (y.k : Int), .int .u8 (y.o : Int), .int .u8 (y.t : Int), .int .i32 y.n, .string (strOf y.s), .slice A y.l.length c] 27)) (.cells #[.int .u8 (z.k : Int), .int .u8 (z.o : Int), .int .u8 (z.t : Int), .int .i32 z.n, .string (strOf z.s), .slice B z.l.length d] 27)) (.cells #[.int .u8 7, .int .u8 (o : Int), .int .u8 0, .int .i32 0, .string ⟨#[]⟩, .slice (some ⟨w.heap.size + 1 + 1 + 1, 0, none⟩) 2 2] 27)
  have h2 := HE.out _ 27 h1
  unfold prC at *
  simp only [World.size_alloc] at r0 r1 r2 r3 r4 r5 h2
  refine bodyPost_ret (v := .agg #[.int .u8 7, .int .u8 (o : Int), .int .u8 0, .int .i32 0, .string ⟨#[]⟩, .slice (some ⟨w.heap.size + 1 + 1 + 1, 0, none⟩) 2 2]) (by simp [results, Tryz.results16, go_sem, r0, r1, r2, r3, r4, r5]) rfl ⟨_, _, rfl, h2, bal h1 _⟩
theorem box16 {W : World} {q : Nat} {t : TypeId} {a0 a1 a2 a3 a4 a5 a6 a7 a8 a9 a10 a11 a12 a13 a14 a15 : Value} (h : BoxS W q t #[a0, a1, a2, a3, a4, a5, a6, a7, a8, a9, a10, a11, a12, a13, a14, a15]) :
    (W.cell? ⟨q, 0, none⟩ = some a0 ∧ W.cell? ⟨q, 1, none⟩ = some a1 ∧ W.cell? ⟨q, 2, none⟩ = some a2 ∧ W.cell? ⟨q, 3, none⟩ = some a3) ∧ (W.cell? ⟨q, 4, none⟩ = some a4 ∧ W.cell? ⟨q, 5, none⟩ = some a5 ∧ W.cell? ⟨q, 6, none⟩ = some a6 ∧ W.cell? ⟨q, 7, none⟩ = some a7)
    ∧ (W.cell? ⟨q, 8, none⟩ = some a8 ∧ W.cell? ⟨q, 9, none⟩ = some a9 ∧ W.cell? ⟨q, 10, none⟩ = some a10 ∧ W.cell? ⟨q, 11, none⟩ = some a11) ∧ (W.cell? ⟨q, 12, none⟩ = some a12 ∧ W.cell? ⟨q, 13, none⟩ = some a13 ∧ W.cell? ⟨q, 14, none⟩ = some a14 ∧ W.cell? ⟨q, 15, none⟩ = some a15) :=
  ⟨⟨(h.cell 0).trans rfl, (h.cell 1).trans rfl, (h.cell 2).trans rfl, (h.cell 3).trans rfl⟩, ⟨(h.cell 4).trans rfl, (h.cell 5).trans rfl, (h.cell 6).trans rfl, (h.cell 7).trans rfl⟩, ⟨(h.cell 8).trans rfl, (h.cell 9).trans rfl, (h.cell 10).trans rfl, (h.cell 11).trans rfl⟩, ⟨(h.cell 12).trans rfl, (h.cell 13).trans rfl, (h.cell 14).trans rfl, (h.cell 15).trans rfl⟩⟩
/-- A specification as a value. -/
def spC (x : Sp) (N : Option Addr) (c : Nat) (B : Option Addr) (d : Nat) : Array Value := #[.int .u8 (x.k : Int), .int .u8 (x.t : Int), .int .i64 x.d, .int .u8 0, .string ⟨#[]⟩, .slice N x.ns.length c, .int .u8 (x.e.k : Int), .int .u8 (x.e.o : Int), .int .u8 (x.e.t : Int), .int .i32 x.e.n, .string (strOf x.e.s), .slice B x.e.l.length d, .bool false, .slice none 0 0, .slice none 0 0, .slice none 0 0]
def AnS (w : World) (x : Sp) (e : Ending) (w' : World) : Prop := ∃ N c B d, e = .returned (.agg (spC x N c B d)) ∧ SS w' N c x.ns ∧ TrR w' B d x.e.l ∧ Below w.heap.size w w'
def valS (s : Bs) (e : Ex) : Sp := ⟨2, 1, 0, [s], e⟩
def decS (s : Bs) (d : Int) : Sp := ⟨1, 1, d, [s], e0⟩
theorem SS.one {W : World} {g : Nat} {t : TypeId} {s : Bs} (h : BoxS W g t #[.string (strOf s)]) : SS W (some ⟨g, 0, none⟩) 1 [s] := ⟨Nat.le_refl _, by simp [maxLen], fun j hj => by
  have hj : j < 1 := hj
  obtain rfl : j = 0 := by omega
  exact ⟨_, rfl, (h.cell 0).trans rfl⟩⟩
set_option maxRecDepth 100000 in
set_option maxHeartbeats 4000000 in
theorem val_any (s : Bs) (e : Ex) (A : Option Addr) (n c : Nat) (w : World) (hn : e.l.length = n) (R : TrR w A c e.l) : Calls Tryz.prog 14 #[.string (strOf s), exV e A n c] w (AnS w (valS s e)) := by
  have hP := box6 (boxS_new w 27 (exC e A n c))
  subst hn
  have HE := Lib.hid fun X (b : Below w.heap.size w X) => R.keep b
  have HS : Hid (∀ (X : World) (cs : TypeId), SS (X.alloc (.cells #[.string (strOf s)] cs)) (some ⟨X.heap.size, 0, none⟩) 1 [s]) := Lib.hid fun X cs => SS.one (boxS_new X cs #[.string (strOf s)])
  unfold AnS
  clear R
  dsimp only [exV, exC] at *
  obtain ⟨p0, p1, p2, p3, p4, p5⟩ := hP
  go_enter Tryz.func14, Tryz.ntmps14
  go_wp2
  obtain ⟨⟨r0, r1, r2, r3⟩, ⟨r4, r5, r6, r7⟩, ⟨r8, r9, r10, r11⟩, ⟨r12, r13, r14, r15⟩⟩ := box16 ((boxS_new (w.alloc (.cells #[.int .u8 (e.k : Int), .int .u8 (e.o : Int), .int .u8 (e.t : Int), .int .i32 e.n, .string (strOf e.s), .slice A e.l.length c] 27)) 48 #[.int .u8 2, .int .u8 1, .int .i64 0, .int .u8 0, .string ⟨#[]⟩, .slice (some ⟨w.heap.size + 1 + 1, 0, none⟩) 1 1, .int .u8 (e.k : Int), .int .u8 (e.o : Int), .int .u8 (e.t : Int), .int .i32 e.n, .string (strOf e.s), .slice A e.l.length c, .bool false, .slice none 0 0, .slice none 0 0, .slice none 0 0]).alloc (.cells #[.string (strOf s)] 9))
  have h1 := bal (bal (b0 w) (.cells #[.int .u8 (e.k : Int), .int .u8 (e.o : Int), .int .u8 (e.t : Int), .int .i32 e.n, .string (strOf e.s), .slice A e.l.length c] 27)) (.cells #[.int .u8 2, .int .u8 1, .int .i64 0, .int .u8 0, .string ⟨#[]⟩, .slice (some ⟨w.heap.size + 1 + 1, 0, none⟩) 1 1, .int .u8 (e.k : Int), .int .u8 (e.o : Int), .int .u8 (e.t : Int), .int .i32 e.n, .string (strOf e.s), .slice A e.l.length c, .bool false, .slice none 0 0, .slice none 0 0, .slice none 0 0] 48)
  have h2 := HS.out ((w.alloc (.cells #[.int .u8 (e.k : Int), .int .u8 (e.o : Int), .int .u8 (e.t : Int), .int .i32 e.n, .string (strOf e.s), .slice A e.l.length c] 27)).alloc (.cells #[.int .u8 2, .int .u8 1, .int .i64 0, .int .u8 0, .string ⟨#[]⟩, .slice (some ⟨w.heap.size + 1 + 1, 0, none⟩) 1 1, .int .u8 (e.k : Int), .int .u8 (e.o : Int), .int .u8 (e.t : Int), .int .i32 e.n, .string (strOf e.s), .slice A e.l.length c, .bool false, .slice none 0 0, .slice none 0 0, .slice none 0 0] 48)) 9
  simp only [World.size_alloc] at r0 r1 r2 r3 r4 r5 r6 r7 r8 r9 r10 r11 r12 r13 r14 r15 h2
  refine bodyPost_ret (v := .agg #[.int .u8 2, .int .u8 1, .int .i64 0, .int .u8 0, .string ⟨#[]⟩, .slice (some ⟨w.heap.size + 1 + 1, 0, none⟩) 1 1, .int .u8 (e.k : Int), .int .u8 (e.o : Int), .int .u8 (e.t : Int), .int .i32 e.n, .string (strOf e.s), .slice A e.l.length c, .bool false, .slice none 0 0, .slice none 0 0, .slice none 0 0]) (by simp [results, Tryz.results14, go_sem, r0, r1, r2, r3, r4, r5, r6, r7, r8, r9, r10, r11, r12, r13, r14, r15]) rfl ⟨some ⟨w.heap.size + 1 + 1, 0, none⟩, 1, A, c, rfl, h2, HE.out _ (bal h1 _), bal h1 _⟩
set_option maxRecDepth 100000 in
set_option maxHeartbeats 4000000 in
theorem declared_any (s : Bs) (d : Int) (w : World) : Calls Tryz.prog 19 #[.string (strOf s), .int .i64 d] w (AnS w (decS s d)) := by
  have HS : Hid (∀ (X : World) (cs : TypeId), SS (X.alloc (.cells #[.string (strOf s)] cs)) (some ⟨X.heap.size, 0, none⟩) 1 [s]) := Lib.hid fun X cs => SS.one (boxS_new X cs #[.string (strOf s)])
  unfold AnS
  go_enter Tryz.func19, Tryz.ntmps19
  go_wp2
  obtain ⟨⟨r0, r1, r2, r3⟩, ⟨r4, r5, r6, r7⟩, ⟨r8, r9, r10, r11⟩, ⟨r12, r13, r14, r15⟩⟩ := box16 ((boxS_new w 48 #[.int .u8 1, .int .u8 1, .int .i64 d, .int .u8 0, .string ⟨#[]⟩, .slice (some ⟨w.heap.size + 1, 0, none⟩) 1 1, .int .u8 0, .int .u8 0, .int .u8 0, .int .i32 0, .string ⟨#[]⟩, .slice none 0 0, .bool false, .slice none 0 0, .slice none 0 0, .slice none 0 0]).alloc (.cells #[.string (strOf s)] 9))
  have h1 := bal (b0 w) (.cells #[.int .u8 1, .int .u8 1, .int .i64 d, .int .u8 0, .string ⟨#[]⟩, .slice (some ⟨w.heap.size + 1, 0, none⟩) 1 1, .int .u8 0, .int .u8 0, .int .u8 0, .int .i32 0, .string ⟨#[]⟩, .slice none 0 0, .bool false, .slice none 0 0, .slice none 0 0, .slice none 0 0] 48)
  have h2 := HS.out (w.alloc (.cells #[.int .u8 1, .int .u8 1, .int .i64 d, .int .u8 0, .string ⟨#[]⟩, .slice (some ⟨w.heap.size + 1, 0, none⟩) 1 1, .int .u8 0, .int .u8 0, .int .u8 0, .int .i32 0, .string ⟨#[]⟩, .slice none 0 0, .bool false, .slice none 0 0, .slice none 0 0, .slice none 0 0] 48)) 9
  simp only [World.size_alloc] at h2
  refine bodyPost_ret (v := .agg #[.int .u8 1, .int .u8 1, .int .i64 d, .int .u8 0, .string ⟨#[]⟩, .slice (some ⟨w.heap.size + 1, 0, none⟩) 1 1, .int .u8 0, .int .u8 0, .int .u8 0, .int .i32 0, .string ⟨#[]⟩, .slice none 0 0, .bool false, .slice none 0 0, .slice none 0 0, .slice none 0 0]) (by simp [results, Tryz.results19, go_sem, r0, r1, r2, r3, r4, r5, r6, r7, r8, r9, r10, r11, r12, r13, r14, r15]) rfl ⟨some ⟨w.heap.size + 1, 0, none⟩, 1, none, 0, rfl, h2, TrR.nil _, bal h1 _⟩
/-- A row of one or two specifications. -/
structure SpV (W : World) (x : Sp) (N : Option Addr) (c : Nat) (B : Option Addr) (d : Nat) : Prop where
  ok : SpOk x
  ss : SS W N c x.ns
  tr : TrR W B d x.e.l
theorem SpV.keep {W X : World} {x : Sp} {N B : Option Addr} {c d : Nat} (h : SpV W x N c B d) (b : Below W.heap.size W X) : SpV X x N c B d := ⟨h.ok, h.ss.keep b, h.tr.keep b⟩
theorem spc_at {W : World} {q o : Nat} {x : Sp} {N B : Option Addr} {c d : Nat} (h : ∀ i v, (spC x N c B d)[i]? = some v → W.cell? ⟨q, o + i, none⟩ = some v) (v : SpV W x N c B d) : SpW W ⟨q, o, none⟩ x := by
  refine ⟨v.ok, N, c, B, d, ⟨h 0 _ rfl, h 1 _ rfl, h 2 _ rfl, h 5 _ rfl, ⟨h 6 _ rfl, ?_, ?_, ?_, ?_, ?_⟩, v.ss, v.tr⟩⟩
  · exact h 7 _ rfl
  · exact h 8 _ rfl
  · exact h 9 _ rfl
  · exact h 10 _ rfl
  · exact h 11 _ rfl
theorem SpR.one {W : World} {q : Nat} {t : TypeId} {x : Sp} {N B : Option Addr} {c d : Nat} (h : BoxS W q t (spC x N c B d)) (v : SpV W x N c B d) : SpR W (some ⟨q, 0, none⟩) 1 [x] := ⟨Nat.le_refl _, by simp [maxLen], fun j hj => by
  have hj : j < 1 := hj
  obtain rfl : j = 0 := by omega
  exact ⟨_, rfl, spc_at (o := 0) (fun i u hu => by rw [Nat.zero_add]; exact (h.cell i).trans hu) v⟩⟩
end Go.Proofs.YtimbiobonigdmaaGreatDoor
