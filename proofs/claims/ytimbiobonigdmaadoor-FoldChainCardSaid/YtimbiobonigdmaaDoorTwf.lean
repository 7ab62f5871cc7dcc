/- The laws' helper two, with where its answer lies. -/
import Derived.Test.YtimbiobonigdmaaDoorM15
set_option linter.unusedVariables false
set_option linter.unusedSimpArgs false
namespace Go.Proofs.YtimbiobonigdmaaDoor
open Go Go.RowKit L8 L10 L14

theorem TrN.two {W : World} {N : Nat → Prop} {g d e : Nat} {t : TypeId} {y z : Ex} {B C : Option Addr} (h : BoxS W g t (prC y z B d C e)) (hN : N g) (ok : OKe y) (ok2 : OKe z) (ty : TrN W N B d y.l) (tz : TrN W N C e z.l) : TrN W N (some ⟨g, 0, none⟩) 2 [y, z] := by
  refine .mk (fun j => if j = 0 then B else C) (fun j => if j = 0 then d else e) (Nat.le_refl _) (by simp [maxLen]) (fun j hj => ?_) (fun j hj => ?_) (fun j hj => ?_)
  all_goals (have hj2 : j < 2 := hj; rcases (show j = 0 ∨ j = 1 by omega) with rfl | rfl)
  · exact ok
  · exact ok2
  · exact ⟨_, rfl, hN, (h.cell 0).trans rfl, (h.cell 1).trans rfl, (h.cell 2).trans rfl, (h.cell 3).trans rfl, (h.cell 4).trans rfl, (h.cell 5).trans rfl⟩
  · exact ⟨_, rfl, hN, (h.cell 6).trans rfl, (h.cell 7).trans rfl, (h.cell 8).trans rfl, (h.cell 9).trans rfl, (h.cell 10).trans rfl, (h.cell 11).trans rfl⟩
  · exact ty
  · exact tz
set_option maxRecDepth 100000 in
set_option maxHeartbeats 4000000 in
theorem two_fr (o : Nat) (y z : Ex) (A B : Option Addr) (n m c d : Nat) (w : World) (hn : y.l.length = n) (hm : z.l.length = m) : Calls Tryd.prog 23 #[.int .u8 (o : Int), exV y A n c, exV z B m d] w (fun en w' => ∃ g, w.heap.size ≤ g ∧ en = .returned (.agg #[.int .u8 7, .int .u8 (o : Int), .int .u8 0, .int .i32 0, .string ⟨#[]⟩, .slice (some ⟨g, 0, none⟩) 2 2]) ∧ BoxS w' g 31 (prC y z A c B d) ∧ Below w.heap.size w w') := by
  have hP := box6 ((boxS_new w 31 (exC y A n c)).alloc (.cells (exC z B m d) 31))
  have hQ := box6 (boxS_new (w.alloc (.cells (exC y A n c) 31)) 31 (exC z B m d))
  subst hn hm
  have HE : Hid (∀ (X : World) (cs : TypeId), BoxS (X.alloc (.cells (prC y z A c B d) cs)) X.heap.size cs (prC y z A c B d)) := Lib.hid fun X cs => boxS_new X cs _
  dsimp only [exV, exC] at *
  rw [World.size_alloc] at hQ
  obtain ⟨p0, p1, p2, p3, p4, p5⟩ := hP
  obtain ⟨q0, q1, q2, q3, q4, q5⟩ := hQ
  go_enter Tryd.func23, Tryd.ntmps23
  go_wp2
  obtain ⟨r0, r1, r2, r3, r4, r5⟩ := box6 ((boxS_new ((w.alloc (.cells #[.int .u8 (y.k : Int), .int .u8 (y.o : Int), .int .u8 (y.t : Int), .int .i32 y.n, .string (strOf y.s), .slice A y.l.length c] 31)).alloc (.cells #[.int .u8 (z.k : Int), .int .u8 (z.o : Int), .int .u8 (z.t : Int), .int .i32 z.n, .string (strOf z.s), .slice B z.l.length d] 31)) 31 #[.int .u8 7, .int .u8 (o : Int), .int .u8 0, .int .i32 0, .string ⟨#[]⟩, .slice (some ⟨w.heap.size + 1 + 1 + 1, 0, none⟩) 2 2]).alloc (.cells (prC y z A c B d) 31))
  have h1 := bal (bal (bal (b0 w) (.cells #[.int .u8 (y.k : Int), .int .u8 (y.o : Int), .int .u8 (y.t : Int), .int .i32 y.n, .string (strOf y.s), .slice A y.l.length c] 31)) (.cells #[.int .u8 (z.k : Int), .int .u8 (z.o : Int), .int .u8 (z.t : Int), .int .i32 z.n, .string (strOf z.s), .slice B z.l.length d] 31)) (.cells #[.int .u8 7, .int .u8 (o : Int), .int .u8 0, .int .i32 0, .string ⟨#[]⟩, .slice (some ⟨w.heap.size + 1 + 1 + 1, 0, none⟩) 2 2] 31)
  have h2 := HE.out (((w.alloc (.cells #[.int .u8 (y.k : Int), .int .u8 (y.o : Int), .int .u8 (y.t : Int), .int .i32 y.n, .string (strOf y.s), .slice A y.l.length c] 31)).alloc (.cells #[.int .u8 (z.k : Int), .int .u8 (z.o : Int), .int .u8 (z.t : Int), .int .i32 z.n, .string (strOf z.s), .slice B z.l.length d] 31)).alloc (.cells #[.int .u8 7, .int .u8 (o : Int), .int .u8 0, .int .i32 0, .string ⟨#[]⟩, .slice (some ⟨w.heap.size + 1 + 1 + 1, 0, none⟩) 2 2] 31)) 31
  unfold prC at *
  simp only [World.size_alloc] at r0 r1 r2 r3 r4 r5 h2
  refine bodyPost_ret (v := .agg #[.int .u8 7, .int .u8 (o : Int), .int .u8 0, .int .i32 0, .string ⟨#[]⟩, .slice (some ⟨w.heap.size + 1 + 1 + 1, 0, none⟩) 2 2]) (by simp [results, Tryd.results23, go_sem, r0, r1, r2, r3, r4, r5]) rfl ⟨w.heap.size + 1 + 1 + 1, by omega, rfl, h2, bal h1 _⟩
end Go.Proofs.YtimbiobonigdmaaDoor
