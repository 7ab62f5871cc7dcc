/- The laws' helper val, with where its answer lies. -/
import Derived.Test.YtimbiobonigdmaaDoorM15
set_option linter.unusedVariables false
set_option linter.unusedSimpArgs false
namespace Go.Proofs.YtimbiobonigdmaaDoor
open Go Go.RowKit L8 L10 L14

set_option maxRecDepth 100000 in
set_option maxHeartbeats 4000000 in
theorem val_fr (s : Bs) (e : Ex) (A : Option Addr) (n c : Nat) (w : World) (hn : e.l.length = n) (R : TrR w A c e.l) : Calls Tryd.prog 17 #[.string (strOf s), exV e A n c] w (fun en w' => ∃ g, w.heap.size ≤ g ∧ en = .returned (.agg (spC (valS s e) (some ⟨g, 0, none⟩) 1 A c)) ∧ SS w' (some ⟨g, 0, none⟩) 1 [s] ∧ TrR w' A c e.l ∧ Below w.heap.size w w') := by
  have hP := box6 (boxS_new w 31 (exC e A n c))
  subst hn
  have HE := Lib.hid fun X (b : Below w.heap.size w X) => R.keep b
  have HS : Hid (∀ (X : World) (cs : TypeId), SS (X.alloc (.cells #[.string (strOf s)] cs)) (some ⟨X.heap.size, 0, none⟩) 1 [s]) := Lib.hid fun X cs => SS.one (boxS_new X cs #[.string (strOf s)])
  clear R
  dsimp only [exV, exC] at *
  obtain ⟨p0, p1, p2, p3, p4, p5⟩ := hP
  go_enter Tryd.func17, Tryd.ntmps17
  go_wp2
  obtain ⟨⟨r0, r1, r2, r3⟩, ⟨r4, r5, r6, r7⟩, ⟨r8, r9, r10, r11⟩, ⟨r12, r13, r14, r15⟩⟩ := box16 ((boxS_new (w.alloc (.cells #[.int .u8 (e.k : Int), .int .u8 (e.o : Int), .int .u8 (e.t : Int), .int .i32 e.n, .string (strOf e.s), .slice A e.l.length c] 31)) 51 #[.int .u8 2, .int .u8 1, .int .i64 0, .int .u8 0, .string ⟨#[]⟩, .slice (some ⟨w.heap.size + 1 + 1, 0, none⟩) 1 1, .int .u8 (e.k : Int), .int .u8 (e.o : Int), .int .u8 (e.t : Int), .int .i32 e.n, .string (strOf e.s), .slice A e.l.length c, .bool false, .slice none 0 0, .slice none 0 0, .slice none 0 0]).alloc (.cells #[.string (strOf s)] 9))
  have h1 := bal (bal (b0 w) (.cells #[.int .u8 (e.k : Int), .int .u8 (e.o : Int), .int .u8 (e.t : Int), .int .i32 e.n, .string (strOf e.s), .slice A e.l.length c] 31)) (.cells #[.int .u8 2, .int .u8 1, .int .i64 0, .int .u8 0, .string ⟨#[]⟩, .slice (some ⟨w.heap.size + 1 + 1, 0, none⟩) 1 1, .int .u8 (e.k : Int), .int .u8 (e.o : Int), .int .u8 (e.t : Int), .int .i32 e.n, .string (strOf e.s), .slice A e.l.length c, .bool false, .slice none 0 0, .slice none 0 0, .slice none 0 0] 51)
  have h2 := HS.out ((w.alloc (.cells #[.int .u8 (e.k : Int), .int .u8 (e.o : Int), .int .u8 (e.t : Int), .int .i32 e.n, .string (strOf e.s), .slice A e.l.length c] 31)).alloc (.cells #[.int .u8 2, .int .u8 1, .int .i64 0, .int .u8 0, .string ⟨#[]⟩, .slice (some ⟨w.heap.size + 1 + 1, 0, none⟩) 1 1, .int .u8 (e.k : Int), .int .u8 (e.o : Int), .int .u8 (e.t : Int), .int .i32 e.n, .string (strOf e.s), .slice A e.l.length c, .bool false, .slice none 0 0, .slice none 0 0, .slice none 0 0] 51)) 9
  simp only [World.size_alloc] at r0 r1 r2 r3 r4 r5 r6 r7 r8 r9 r10 r11 r12 r13 r14 r15 h2
  refine bodyPost_ret (v := .agg #[.int .u8 2, .int .u8 1, .int .i64 0, .int .u8 0, .string ⟨#[]⟩, .slice (some ⟨w.heap.size + 1 + 1, 0, none⟩) 1 1, .int .u8 (e.k : Int), .int .u8 (e.o : Int), .int .u8 (e.t : Int), .int .i32 e.n, .string (strOf e.s), .slice A e.l.length c, .bool false, .slice none 0 0, .slice none 0 0, .slice none 0 0]) (by simp [results, Tryd.results17, go_sem, r0, r1, r2, r3, r4, r5, r6, r7, r8, r9, r10, r11, r12, r13, r14, r15]) rfl ⟨w.heap.size + 1 + 1, by omega, rfl, h2, HE.out _ (bal h1 _), bal h1 _⟩
theorem val_fi (s : Bs) (v : Int) (w : World) : Calls Tryd.prog 17 #[.string (strOf s), .agg #[.int .u8 1, .int .u8 0, .int .u8 0, .int .i32 v, .string ⟨#[]⟩, .slice none 0 0]] w fun en w' => ∃ g, w.heap.size ≤ g ∧ en = .returned (.agg #[.int .u8 2, .int .u8 1, .int .i64 0, .int .u8 0, .string ⟨#[]⟩, .slice (some ⟨g, 0, none⟩) 1 1, .int .u8 1, .int .u8 0, .int .u8 0, .int .i32 v, .string ⟨#[]⟩, .slice none 0 0, .bool false, .slice none 0 0, .slice none 0 0, .slice none 0 0]) ∧ SS w' (some ⟨g, 0, none⟩) 1 [s] ∧ Below w.heap.size w w' := by
  refine Calls.mono (val_fr s (litE 1 v) none 0 0 w rfl (TrR.nil w)) ?_
  rintro en w' ⟨g, h1, rfl, h2, h3, h4⟩
  exact ⟨g, h1, rfl, h2, h4⟩
end Go.Proofs.YtimbiobonigdmaaDoor
