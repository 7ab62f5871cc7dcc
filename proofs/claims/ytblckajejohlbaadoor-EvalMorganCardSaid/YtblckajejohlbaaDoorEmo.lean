/- The law EvalMorgan. -/
import Derived.Test.YtblckajejohlbaaDoorEmr
import Derived.Test.YtblckajejohlbaaDoorM10
set_option linter.unusedVariables false
set_option linter.unusedSimpArgs false
set_option linter.unusedVariables false
set_option linter.unusedSimpArgs false
namespace Go.Proofs.YtblckajejohlbaaDoor
open Go Go.RowKit L8 L22 L17
open L14 (inW isT apO)

abbrev norX (a b : Kx) : Kx := k1 26 (k2 21 (k1 26 a) (k1 26 b))
abbrev nandX (a b : Kx) : Kx := k1 26 (k2 20 (k1 26 a) (k1 26 b))
theorem part1 {o : Nat} {a : Kx} (h : okX (k1 o a) = true) : okX a = true := okK_mem (ok_parts h) (List.mem_cons_self ..)
theorem part2 {o : Nat} {a b : Kx} (h : okX (k2 o a b) = true) : okX a = true ∧ okX b = true := ⟨okK_mem (ok_parts h) (List.mem_cons_self ..), okK_mem (ok_parts h) (List.mem_cons_of_mem _ (List.mem_cons_self ..))⟩
theorem dp_k1 (o : Nat) (a : Kx) : dpX (k1 o a) = 1 + max (dpX a) 0 := by rw [dpX_eq]; show 1 + dpK [a] = _; rw [dpK, dpK]
theorem dp_k2 (o : Nat) (a b : Kx) : dpX (k2 o a b) = 1 + max (dpX a) (max (dpX b) 0) := by rw [dpX_eq]; show 1 + dpK [a, b] = _; rw [dpK, dpK, dpK]
theorem sz_k1 (o : Nat) (a : Kx) : szX (k1 o a) = 1 + szX a := by rw [szX_eq]; show 1 + szK [a] = _; rw [szK, szK]; rfl
theorem sz_k2 (o : Nat) (a b : Kx) : szX (k2 o a b) = 1 + (szX a + szX b) := by rw [szX_eq]; show 1 + szK [a, b] = _; rw [szK, szK, szK]; rfl
theorem ok_pair {o : Nat} (h1 : 1 ≤ o) (h2 : o ≤ 22) {a b : Kx} (ha : okX a = true) (hb : okX b = true) : okX (k2 o a b) = true := by
  rw [okX_eq]
  show (shX (k2 o a b) && okK [a, b]) = true
  have e1 : shX (k2 o a b) = true := by
    show (decide (1 ≤ o) && decide (o ≤ 22) && decide (0 = 0) && decide ((0 : Int) = 0) && decide ((0 : Int) = 0) && decide (2 = 2)) = true
    rw [decide_eq_true h1, decide_eq_true h2]; rfl
  rw [e1, okK, okK, okK, ha, hb]; rfl
theorem inner_may {o i : Nat} (h1 : 1 ≤ i) (h2 : i ≤ 22) {a b : Kx} (h : mayX (k1 26 (k2 o (k1 26 a) (k1 26 b))) = true) : mayX (k2 i a b) = true ∧ mayX a = true := by
  obtain ⟨ho, hd, hs⟩ := may_iff.1 h
  obtain ⟨p, q⟩ := part2 (part1 ho)
  have pa := part1 p
  have pb := part1 q
  rw [dp_k1, dp_k2, dp_k1, dp_k1] at hd
  rw [sz_k1, sz_k2, sz_k1, sz_k1] at hs
  exact ⟨may_iff.2 ⟨ok_pair h1 h2 pa pb, by rw [dp_k2]; omega, by rw [sz_k2]; omega⟩, may_iff.2 ⟨pa, by omega, by omega⟩⟩
/-- What the law compares. -/
theorem mor_1 (s : St) {a b : Kx} (h : mayX (norX a b) = true) : valK s (k2 20 a b) = valK s (norX a b) := by
  rw [valK_is h, valK_is (inner_may (by omega) (by omega) h).1]
  exact (morgan s a b).1
theorem mor_2 (s : St) {a b : Kx} (h : mayX (nandX a b) = true) : valK s (k2 21 a b) = valK s (nandX a b) := by
  rw [valK_is h, valK_is (inner_may (by omega) (by omega) h).1]
  exact (morgan s a b).2
theorem mor_0 (s : St) {a b : Kx} (h : mayX (norX a b) = true) (hv : valK s a = some 0) : isB (valK s (k2 20 a b)) 0 = true := by
  obtain ⟨h1, h2⟩ := inner_may (i := 20) (by omega) (by omega) h
  rw [valK_is h2] at hv
  rw [valK_is h1, vl_k2, hv]
  rfl
theorem mor_3 (s : St) {a b : Kx} (h : mayX (nandX a b) = true) (hv : valK s a = some 1) : isB (valK s (k2 21 a b)) 1 = true := by
  obtain ⟨h1, h2⟩ := inner_may (i := 21) (by omega) (by omega) h
  rw [valK_is h2] at hv
  rw [valK_is h1, vl_k2, hv]
  rfl
theorem mor_n (s : St) {a b : Kx} (h : mayX (norX a b) = true) {v : Int} (hv : valK s a = some v) (h0 : v ≠ 0) (h1 : v ≠ 1) : ftB (valK s (k2 20 a b)) = true := by
  obtain ⟨q1, q2⟩ := inner_may (i := 20) (by omega) (by omega) h
  rw [valK_is q2] at hv
  have hx : ¬ isT v = true := fun e => by rcases (isT_iff v).1 e with e | e <;> omega
  have d1 : decO 20 v = false := by unfold decO; simp [h0]
  have : valK s (k2 20 a b) = none := by
    rw [valK_is q1, vl_k2, hv]
    simp only [d1]
    cases vlX s b with
    | none => rfl
    | some y =>
      have e1 : apO 20 v y = none := by rw [ap_and, if_neg fun h => hx h.1]
      simp only [e1]
      rfl
  rw [this]; rfl
theorem cells_1 {W : World} {p : Nat} {y : Kx} {N : Option Addr} {c : Nat} (h : BoxS W p 45 (kxC (k1 26 y) N 1 c)) : W.cell? ⟨p, 0, none⟩ = some (.int .u8 4) ∧ W.cell? ⟨p, 1, none⟩ = some (.int .u8 26) ∧ W.cell? ⟨p, 2, none⟩ = some (.int .u8 0) ∧ W.cell? ⟨p, 3, none⟩ = some (.int .i32 0) ∧ W.cell? ⟨p, 4, none⟩ = some (.int .i64 0) ∧ W.cell? ⟨p, 5, none⟩ = some (.slice N 1 c) :=
  ⟨(h.cell 0).trans rfl, (h.cell 1).trans rfl, (h.cell 2).trans rfl, (h.cell 3).trans rfl, (h.cell 4).trans rfl, (h.cell 5).trans rfl⟩
theorem cells_20 {W : World} {p : Nat} {y z : Kx} {N : Option Addr} {c : Nat} (h : BoxS W p 45 (kxC (k2 20 y z) N 2 c)) : W.cell? ⟨p, 0, none⟩ = some (.int .u8 5) ∧ W.cell? ⟨p, 1, none⟩ = some (.int .u8 20) ∧ W.cell? ⟨p, 2, none⟩ = some (.int .u8 0) ∧ W.cell? ⟨p, 3, none⟩ = some (.int .i32 0) ∧ W.cell? ⟨p, 4, none⟩ = some (.int .i64 0) ∧ W.cell? ⟨p, 5, none⟩ = some (.slice N 2 c) :=
  ⟨(h.cell 0).trans rfl, (h.cell 1).trans rfl, (h.cell 2).trans rfl, (h.cell 3).trans rfl, (h.cell 4).trans rfl, (h.cell 5).trans rfl⟩
theorem cells_21 {W : World} {p : Nat} {y z : Kx} {N : Option Addr} {c : Nat} (h : BoxS W p 45 (kxC (k2 21 y z) N 2 c)) : W.cell? ⟨p, 0, none⟩ = some (.int .u8 5) ∧ W.cell? ⟨p, 1, none⟩ = some (.int .u8 21) ∧ W.cell? ⟨p, 2, none⟩ = some (.int .u8 0) ∧ W.cell? ⟨p, 3, none⟩ = some (.int .i32 0) ∧ W.cell? ⟨p, 4, none⟩ = some (.int .i64 0) ∧ W.cell? ⟨p, 5, none⟩ = some (.slice N 2 c) :=
  ⟨(h.cell 0).trans rfl, (h.cell 1).trans rfl, (h.cell 2).trans rfl, (h.cell 3).trans rfl, (h.cell 4).trans rfl, (h.cell 5).trans rfl⟩
theorem box12 {W : World} {p : Nat} {t : TypeId} {v0 v1 v2 v3 v4 v5 v6 v7 v8 v9 v10 v11 : Value} (h : BoxS W p t #[v0, v1, v2, v3, v4, v5, v6, v7, v8, v9, v10, v11]) : W.cell? ⟨p, 0, none⟩ = some v0 ∧ W.cell? ⟨p, 1, none⟩ = some v1 ∧ W.cell? ⟨p, 2, none⟩ = some v2 ∧ W.cell? ⟨p, 3, none⟩ = some v3 ∧ W.cell? ⟨p, 4, none⟩ = some v4 ∧ W.cell? ⟨p, 5, none⟩ = some v5 ∧ W.cell? ⟨p, 6, none⟩ = some v6 ∧ W.cell? ⟨p, 7, none⟩ = some v7 ∧ W.cell? ⟨p, 8, none⟩ = some v8 ∧ W.cell? ⟨p, 9, none⟩ = some v9 ∧ W.cell? ⟨p, 10, none⟩ = some v10 ∧ W.cell? ⟨p, 11, none⟩ = some v11 :=
  ⟨(h.cell 0).trans rfl, (h.cell 1).trans rfl, (h.cell 2).trans rfl, (h.cell 3).trans rfl, (h.cell 4).trans rfl, (h.cell 5).trans rfl, (h.cell 6).trans rfl, (h.cell 7).trans rfl, (h.cell 8).trans rfl, (h.cell 9).trans rfl, (h.cell 10).trans rfl, (h.cell 11).trans rfl⟩
theorem box24a {W : World} {p : Nat} {t : TypeId} {v0 v1 v2 v3 v4 v5 v6 v7 v8 v9 v10 v11 v12 v13 v14 v15 v16 v17 v18 v19 v20 v21 v22 v23 : Value} (h : BoxS W p t #[v0, v1, v2, v3, v4, v5, v6, v7, v8, v9, v10, v11, v12, v13, v14, v15, v16, v17, v18, v19, v20, v21, v22, v23]) : W.cell? ⟨p, 0, none⟩ = some v0 ∧ W.cell? ⟨p, 1, none⟩ = some v1 ∧ W.cell? ⟨p, 2, none⟩ = some v2 ∧ W.cell? ⟨p, 3, none⟩ = some v3 ∧ W.cell? ⟨p, 4, none⟩ = some v4 ∧ W.cell? ⟨p, 5, none⟩ = some v5 ∧ W.cell? ⟨p, 6, none⟩ = some v6 ∧ W.cell? ⟨p, 7, none⟩ = some v7 ∧ W.cell? ⟨p, 8, none⟩ = some v8 ∧ W.cell? ⟨p, 9, none⟩ = some v9 ∧ W.cell? ⟨p, 10, none⟩ = some v10 ∧ W.cell? ⟨p, 11, none⟩ = some v11 :=
  ⟨(h.cell 0).trans rfl, (h.cell 1).trans rfl, (h.cell 2).trans rfl, (h.cell 3).trans rfl, (h.cell 4).trans rfl, (h.cell 5).trans rfl, (h.cell 6).trans rfl, (h.cell 7).trans rfl, (h.cell 8).trans rfl, (h.cell 9).trans rfl, (h.cell 10).trans rfl, (h.cell 11).trans rfl⟩
theorem box24b {W : World} {p : Nat} {t : TypeId} {v0 v1 v2 v3 v4 v5 v6 v7 v8 v9 v10 v11 v12 v13 v14 v15 v16 v17 v18 v19 v20 v21 v22 v23 : Value} (h : BoxS W p t #[v0, v1, v2, v3, v4, v5, v6, v7, v8, v9, v10, v11, v12, v13, v14, v15, v16, v17, v18, v19, v20, v21, v22, v23]) : W.cell? ⟨p, 12, none⟩ = some v12 ∧ W.cell? ⟨p, 13, none⟩ = some v13 ∧ W.cell? ⟨p, 14, none⟩ = some v14 ∧ W.cell? ⟨p, 15, none⟩ = some v15 ∧ W.cell? ⟨p, 16, none⟩ = some v16 ∧ W.cell? ⟨p, 17, none⟩ = some v17 ∧ W.cell? ⟨p, 18, none⟩ = some v18 ∧ W.cell? ⟨p, 19, none⟩ = some v19 ∧ W.cell? ⟨p, 20, none⟩ = some v20 ∧ W.cell? ⟨p, 21, none⟩ = some v21 ∧ W.cell? ⟨p, 22, none⟩ = some v22 ∧ W.cell? ⟨p, 23, none⟩ = some v23 :=
  ⟨(h.cell 12).trans rfl, (h.cell 13).trans rfl, (h.cell 14).trans rfl, (h.cell 15).trans rfl, (h.cell 16).trans rfl, (h.cell 17).trans rfl, (h.cell 18).trans rfl, (h.cell 19).trans rfl, (h.cell 20).trans rfl, (h.cell 21).trans rfl, (h.cell 22).trans rfl, (h.cell 23).trans rfl⟩
/-- All that is known behind the two regions. -/
structure MgS (w X : World) (s : St) (S : Option Addr) (sc : Nat) (a b : Kx) (A : Option Addr) (n c : Nat) (p1 p2 p3 p4 : Nat) (N1 N2 N3 N4 : Option Addr) (c1 c2 c3 c4 : Nat) : Prop where
  bel : Below w.heap.size w X
  t : T17 X
  s : StR X S sc s
  x : BoxS X w.heap.size 45 (kxC a A n c)
  r : KrR X A c a.l
  x1 : BoxS X p1 45 (kxC (k2 20 a b) N1 2 c1)
  r1 : KrR X N1 c1 [a, b]
  x2 : BoxS X p2 45 (kxC (k2 21 a b) N2 2 c2)
  r2 : KrR X N2 c2 [a, b]
  x3 : BoxS X p3 45 (kxC (norX a b) N3 1 c3)
  r3 : KrR X N3 c3 [k2 21 (k1 26 a) (k1 26 b)]
  x4 : BoxS X p4 45 (kxC (nandX a b) N4 1 c4)
  r4 : KrR X N4 c4 [k2 20 (k1 26 a) (k1 26 b)]
theorem MgS.step {w X Y : World} {s : St} {S : Option Addr} {sc : Nat} {a b : Kx} {A : Option Addr} {n c : Nat} {p1 p2 p3 p4 : Nat} {N1 N2 N3 N4 : Option Addr} {c1 c2 c3 c4 : Nat} (h : MgS w X s S sc a b A n c p1 p2 p3 p4 N1 N2 N3 N4 c1 c2 c3 c4) (k : Below X.heap.size X Y) : MgS w Y s S sc a b A n c p1 p2 p3 p4 N1 N2 N3 N4 c1 c2 c3 c4 :=
  ⟨blw h.bel k, h.t.below k, h.s.keep k, h.x.below k, h.r.keep k, h.x1.below k, h.r1.keep k, h.x2.below k, h.r2.keep k, h.x3.below k, h.r3.keep k, h.x4.below k, h.r4.keep k⟩
set_option maxRecDepth 100000 in
set_option maxHeartbeats 16000000 in
theorem walkEvalMorgan (s : St) (S : Option Addr) (sn sc : Nat) (hs : s.length = sn) (a : Kx) (A : Option Addr) (n c : Nat) (hn : a.l.length = n) (oka : OKk a) (b : Kx) (B : Option Addr) (m d : Nat) (hm : b.l.length = m) (okb : OKk b) (w : World) (T : StR w S sc s) (hM : StM s) (Ra : KrR w A c a.l) (Rb : KrR w B d b.l) (hT : T17 w) : Calls Tryd.prog 9 #[.slice S sn sc, kxV a A n c, kxV b B m d] w fun en w' => en = .returned (.bool true) ∧ Below w.heap.size w w' := by
  have B1 : Below w.heap.size w ((w.alloc (.cells (kxC a A n c) 45)).alloc (.cells (kxC b B m d) 45)) := bal (bal (b0 w) _) _
  have X1 := (boxS_new w 45 (kxC a A n c)).alloc (.cells (kxC b B m d) 45)
  have X2 := boxS_new (w.alloc (.cells (kxC a A n c) 45)) 45 (kxC b B m d)
  rw [World.size_alloc] at X2
  have HS : SB w.heap.size (w.heap.size + 1) a b A B n m c d ((w.alloc (.cells (kxC a A n c) 45)).alloc (.cells (kxC b B m d) 45)) := by
    obtain ⟨p0, p1, p2, p3, p4, p5⟩ := box6 X1
    obtain ⟨q0, q1, q2, q3, q4, q5⟩ := box6 X2
    exact ⟨p0, p1, p2, p3, p4, p5, q0, q1, q2, q3, q4, q5⟩
  have HX := Lib.hid X1
  have HB := Lib.hid B1
  have HS := Lib.hid HS
  clear X1 X2 B1
  have HR := Lib.hid Ra
  have HR2 := Lib.hid Rb
  have HT := Lib.hid hT
  have HU := Lib.hid T
  have HM := Lib.hid hM
  have h1 := Lib.hid hn
  have h2 := Lib.hid hm
  have h3 := Lib.hid hs
  have h4 := Lib.hid oka
  have h5 := Lib.hid okb
  clear T hM Ra Rb hT hn hm hs oka okb
  dsimp only [kxV, kxC] at *
  go_enter Tryd.func9, Tryd.ntmps9
  go_upto_region 1 with fail
  generalize (w.alloc (.cells #[.int .u8 (a.k : Int), .int .u8 (a.o : Int), .int .u8 (a.t : Int), .int .i32 a.n, .int .i64 a.v, .slice A n c] 45)).alloc (.cells #[.int .u8 (b.k : Int), .int .u8 (b.o : Int), .int .u8 (b.t : Int), .int .i32 b.n, .int .i64 b.v, .slice B m d] 45) = W1 at *
  refine wp_region_noPanic ?_
  refine region1 W1 _ _ a b A B n m c d h1.out h2.out h4.out h5.out (HR.out.keep HB.out) (HR2.out.keep HB.out) HS.out (fun _ _ _ _ _ h => h) ?_
  intro p1 p2 A1 c1 A2 c2 W2 bW hp1 hp2 ⟨N1, d1, y1, z1⟩ ⟨N2, d2, y2, z2⟩
  refine NoPanic.normal ?_
  dsimp only
  go_step
  go_step
  go_upto_region 2 with fail
  refine wp_region_noPanic ?_
  refine region2 W2 _ _ a b A B n m c d h1.out h2.out h4.out h5.out ((HR.out.keep HB.out).keep bW) ((HR2.out.keep HB.out).keep bW) (HS.out.keep bW) (fun _ _ _ _ _ h => h) ?_
  intro p3 p4 _ _ _ _ _ _ _ _ _ _ _ _ _ _ _ _ W3 bV hp3 hp4 ⟨N3, d3, y3, z3⟩ ⟨N4, d4, y4, z4⟩
  refine NoPanic.normal ?_
  dsimp only
  go_step
  go_step
  -- GEN
  have M0 : Hid (MgS w W3 s S sc a b A n c p1 p2 p3 p4 N1 N2 N3 N4 d1 d2 d3 d4) := Lib.hid ⟨blw (blw HB.out bW) bV, ((HT.out.below HB.out).below bW).below bV, ((HU.out.keep HB.out).keep bW).keep bV, (BoxS.below HX.out bW).below bV, ((HR.out.keep HB.out).keep bW).keep bV, y1.below bV, z1.keep bV, y2.below bV, z2.keep bV, y3, z3, y4, z4⟩
  clear HB bW bV HX HS HR HR2 HT HU y1 z1 y2 z2 y3 z3 y4 z4 hp1 hp2 hp3 hp4
  have CG := Lib.hid fun X (h : Hid (MgS w X s S sc a b A n c p1 p2 p3 p4 N1 N2 N3 N4 d1 d2 d3 d4)) => great_any s S sn sc X h.out.s h3.out HM.out.b (by rw [← h3.out]; exact HM.out.n)
  have CA := Lib.hid fun X (h : Hid (MgS w X s S sc a b A n c p1 p2 p3 p4 N1 N2 N3 N4 d1 d2 d3 d4)) => awake_any X h.out.t
  have CV3 : Hid (∀ X, Hid (MgS w X s S sc a b A n c p1 p2 p3 p4 N1 N2 N3 N4 d1 d2 d3 d4) → Calls Tryd.prog 25 #[.agg #[.int .u8 4, .int .u8 26, .int .u8 0, .int .i32 0, .int .i64 0, .slice N3 1 d3]] X fun en w' => en = .returned (.bool (mayX (norX a b))) ∧ Below X.heap.size X w') := Lib.hid fun X h => by
    have := RValid_any (norX a b) N3 1 d3 X h.out.r3 rfl (ok_k1 (by omega))
    exact this
  have CV4 : Hid (∀ X, Hid (MgS w X s S sc a b A n c p1 p2 p3 p4 N1 N2 N3 N4 d1 d2 d3 d4) → Calls Tryd.prog 25 #[.agg #[.int .u8 4, .int .u8 26, .int .u8 0, .int .i32 0, .int .i64 0, .slice N4 1 d4]] X fun en w' => en = .returned (.bool (mayX (nandX a b))) ∧ Below X.heap.size X w') := Lib.hid fun X h => by
    have := RValid_any (nandX a b) N4 1 d4 X h.out.r4 rfl (ok_k1 (by omega))
    exact this
  have CE1 : Hid (∀ X, Hid (MgS w X s S sc a b A n c p1 p2 p3 p4 N1 N2 N3 N4 d1 d2 d3 d4) → Calls Tryd.prog 19 #[.slice S sn sc, .agg #[.int .u8 5, .int .u8 20, .int .u8 0, .int .i32 0, .int .i64 0, .slice N1 2 d1]] X fun en w' => en = .returned (apR (valK s (k2 20 a b))) ∧ Below X.heap.size X w') := Lib.hid fun X h => by
    have := PValue_any s S sn sc h3.out (k2 20 a b) N1 2 d1 X h.out.r1 (ok_k2 (by omega)) rfl h.out.s h.out.t
    exact this
  have CE2 : Hid (∀ X, Hid (MgS w X s S sc a b A n c p1 p2 p3 p4 N1 N2 N3 N4 d1 d2 d3 d4) → Calls Tryd.prog 19 #[.slice S sn sc, .agg #[.int .u8 5, .int .u8 21, .int .u8 0, .int .i32 0, .int .i64 0, .slice N2 2 d2]] X fun en w' => en = .returned (apR (valK s (k2 21 a b))) ∧ Below X.heap.size X w') := Lib.hid fun X h => by
    have := PValue_any s S sn sc h3.out (k2 21 a b) N2 2 d2 X h.out.r2 (ok_k2 (by omega)) rfl h.out.s h.out.t
    exact this
  have CE3 : Hid (∀ X, Hid (MgS w X s S sc a b A n c p1 p2 p3 p4 N1 N2 N3 N4 d1 d2 d3 d4) → Calls Tryd.prog 19 #[.slice S sn sc, .agg #[.int .u8 4, .int .u8 26, .int .u8 0, .int .i32 0, .int .i64 0, .slice N3 1 d3]] X fun en w' => en = .returned (apR (valK s (norX a b))) ∧ Below X.heap.size X w') := Lib.hid fun X h => by
    have := PValue_any s S sn sc h3.out (norX a b) N3 1 d3 X h.out.r3 (ok_k1 (by omega)) rfl h.out.s h.out.t
    exact this
  have CE4 : Hid (∀ X, Hid (MgS w X s S sc a b A n c p1 p2 p3 p4 N1 N2 N3 N4 d1 d2 d3 d4) → Calls Tryd.prog 19 #[.slice S sn sc, .agg #[.int .u8 4, .int .u8 26, .int .u8 0, .int .i32 0, .int .i64 0, .slice N4 1 d4]] X fun en w' => en = .returned (apR (valK s (nandX a b))) ∧ Below X.heap.size X w') := Lib.hid fun X h => by
    have := PValue_any s S sn sc h3.out (nandX a b) N4 1 d4 X h.out.r4 (ok_k1 (by omega)) rfl h.out.s h.out.t
    exact this
  have CE := Lib.hid fun X (h : Hid (MgS w X s S sc a b A n c p1 p2 p3 p4 N1 N2 N3 N4 d1 d2 d3 d4)) => PValue_any s S sn sc h3.out a A n c X h.out.r h4.out h1.out h.out.s h.out.t
  have CF : Hid (∀ X, Hid (MgS w X s S sc a b A n c p1 p2 p3 p4 N1 N2 N3 N4 d1 d2 d3 d4) → Calls Tryd.prog 34 #[.slice S sn sc, .agg #[.int .u8 5, .int .u8 20, .int .u8 0, .int .i32 0, .int .i64 0, .slice N1 2 d1]] X fun en w' => en = .returned (.bool (ftB (valK s (k2 20 a b)))) ∧ Below X.heap.size X w') := Lib.hid fun X h => by
    have := faults_any s S sn sc h3.out (k2 20 a b) N1 2 d1 X h.out.r1 (ok_k2 (by omega)) rfl h.out.s h.out.t
    exact this
  have CI1 : Hid (∀ X, Hid (MgS w X s S sc a b A n c p1 p2 p3 p4 N1 N2 N3 N4 d1 d2 d3 d4) → Calls Tryd.prog 29 #[.slice S sn sc, .agg #[.int .u8 5, .int .u8 20, .int .u8 0, .int .i32 0, .int .i64 0, .slice N1 2 d1], .int .i32 0] X fun en w' => en = .returned (.bool (isB (valK s (k2 20 a b)) 0)) ∧ Below X.heap.size X w') := Lib.hid fun X h => by
    have := is_any s S sn sc h3.out (k2 20 a b) N1 2 d1 0 X h.out.r1 (ok_k2 (by omega)) rfl h.out.s h.out.t
    exact this
  have CI2 : Hid (∀ X, Hid (MgS w X s S sc a b A n c p1 p2 p3 p4 N1 N2 N3 N4 d1 d2 d3 d4) → Calls Tryd.prog 29 #[.slice S sn sc, .agg #[.int .u8 5, .int .u8 21, .int .u8 0, .int .i32 0, .int .i64 0, .slice N2 2 d2], .int .i32 1] X fun en w' => en = .returned (.bool (isB (valK s (k2 21 a b)) 1)) ∧ Below X.heap.size X w') := Lib.hid fun X h => by
    have := is_any s S sn sc h3.out (k2 21 a b) N2 2 d2 1 X h.out.r2 (ok_k2 (by omega)) rfl h.out.s h.out.t
    exact this
  have Z1 := Lib.hid fun X (h : Hid (MgS w X s S sc a b A n c p1 p2 p3 p4 N1 N2 N3 N4 d1 d2 d3 d4)) => cells_20 h.out.x1
  have Z2 := Lib.hid fun X (h : Hid (MgS w X s S sc a b A n c p1 p2 p3 p4 N1 N2 N3 N4 d1 d2 d3 d4)) => cells_21 h.out.x2
  have Z3 := Lib.hid fun X (h : Hid (MgS w X s S sc a b A n c p1 p2 p3 p4 N1 N2 N3 N4 d1 d2 d3 d4)) => cells_1 h.out.x3
  have Z4 := Lib.hid fun X (h : Hid (MgS w X s S sc a b A n c p1 p2 p3 p4 N1 N2 N3 N4 d1 d2 d3 d4)) => cells_1 h.out.x4
  have ZA := Lib.hid fun X (h : Hid (MgS w X s S sc a b A n c p1 p2 p3 p4 N1 N2 N3 N4 d1 d2 d3 d4)) => box6 h.out.x
  dsimp only [kxV] at CE
  obtain ⟨e0, e1, e2, e3, e4, e5⟩ := Z3.out _ M0
  by_cases g0 : 600 < grS s
  · rw [decide_eq_true g0] at CG
    go_wp2_with (first
      | (go_at_call 11; (with_reducible refine (CG.out _ M0).mono ?_); rintro en v1 ⟨rfl, rfl⟩)
      | (go_at_call 12; (with_reducible refine (CA.out _ M0).mono ?_); rintro en v9 ⟨rfl, bb⟩; have M9 := Lib.hid (M0.out.step bb); clear bb))
    go_ret
    exact ⟨rfl, M9.out.bel⟩
  rw [decide_eq_false g0] at CG
  cases hm3 : mayX (norX a b) with
  | false =>
    rw [hm3] at CV3
    go_wp2_with (first
    | (go_at_call 11; (with_reducible refine (CG.out _ M0).mono ?_); rintro en v1 ⟨rfl, rfl⟩)
    | (go_at_call 25; (with_reducible refine (CV3.out _ M0).mono ?_); rintro en v2 ⟨rfl, bb⟩; have M1 := Lib.hid (M0.out.step bb); clear bb; clear e0 e1 e2 e3 e4 e5; obtain ⟨f0, f1, f2, f3, f4, f5⟩ := Z4.out _ M1)
    | (go_at_call 12; (with_reducible refine (CA.out _ M1).mono ?_); rintro en v9 ⟨rfl, bb⟩; have M9 := Lib.hid (M1.out.step bb); clear bb))
    go_ret
    exact ⟨rfl, M9.out.bel⟩
  | true =>
  rw [hm3] at CV3
  cases hm4 : mayX (nandX a b) with
  | false =>
    rw [hm4] at CV4
    go_wp2_with (first
    | (go_at_call 11; (with_reducible refine (CG.out _ M0).mono ?_); rintro en v1 ⟨rfl, rfl⟩)
    | (go_at_call 25; (with_reducible refine (CV3.out _ M0).mono ?_); rintro en v2 ⟨rfl, bb⟩; have M1 := Lib.hid (M0.out.step bb); clear bb; clear e0 e1 e2 e3 e4 e5; obtain ⟨f0, f1, f2, f3, f4, f5⟩ := Z4.out _ M1)
    | (go_at_call 25; (with_reducible refine (CV4.out _ M1).mono ?_); rintro en v3 ⟨rfl, bb⟩; have M2 := Lib.hid (M1.out.step bb); clear bb; clear f0 f1 f2 f3 f4 f5; obtain ⟨r0, r1, r2, r3, r4, r5⟩ := Z1.out _ M2; obtain ⟨t0, t1, t2, t3, t4, t5⟩ := Z2.out _ M2; obtain ⟨e0, e1, e2, e3, e4, e5⟩ := Z3.out _ M2; obtain ⟨f0, f1, f2, f3, f4, f5⟩ := Z4.out _ M2)
    | (go_at_call 12; (with_reducible refine (CA.out _ M2).mono ?_); rintro en v9 ⟨rfl, bb⟩; have M9 := Lib.hid (M2.out.step bb); clear bb))
    go_ret
    exact ⟨rfl, M9.out.bel⟩
  | true =>
  rw [hm4] at CV4
  go_upto_region 6 with (first
    | (go_at_call 11; (with_reducible refine (CG.out _ M0).mono ?_); rintro en v1 ⟨rfl, rfl⟩)
    | (go_at_call 25; (with_reducible refine (CV3.out _ M0).mono ?_); rintro en v2 ⟨rfl, bb⟩; have M1 := Lib.hid (M0.out.step bb); clear bb; clear e0 e1 e2 e3 e4 e5; obtain ⟨f0, f1, f2, f3, f4, f5⟩ := Z4.out _ M1)
    | (go_at_call 25; (with_reducible refine (CV4.out _ M1).mono ?_); rintro en v3 ⟨rfl, bb⟩; have M2 := Lib.hid (M1.out.step bb); clear bb; clear f0 f1 f2 f3 f4 f5; obtain ⟨r0, r1, r2, r3, r4, r5⟩ := Z1.out _ M2; obtain ⟨t0, t1, t2, t3, t4, t5⟩ := Z2.out _ M2; obtain ⟨e0, e1, e2, e3, e4, e5⟩ := Z3.out _ M2; obtain ⟨f0, f1, f2, f3, f4, f5⟩ := Z4.out _ M2))
  have M3 : Hid (MgS w (v3.alloc (.cells #[.int .u8 5, .int .u8 20, .int .u8 0, .int .i32 0, .int .i64 0, .slice N1 2 d1, .int .u8 4, .int .u8 26, .int .u8 0, .int .i32 0, .int .i64 0, .slice N3 1 d3, .int .u8 5, .int .u8 21, .int .u8 0, .int .i32 0, .int .i64 0, .slice N2 2 d2, .int .u8 4, .int .u8 26, .int .u8 0, .int .i32 0, .int .i64 0, .slice N4 1 d4] 75)) s S sc a b A n c p1 p2 p3 p4 N1 N2 N3 N4 d1 d2 d3 d4) := Lib.hid (M2.out.step (bal (b0 v3) _))
  have B3 : Hid (BoxS (v3.alloc (.cells #[.int .u8 5, .int .u8 20, .int .u8 0, .int .i32 0, .int .i64 0, .slice N1 2 d1, .int .u8 4, .int .u8 26, .int .u8 0, .int .i32 0, .int .i64 0, .slice N3 1 d3, .int .u8 5, .int .u8 21, .int .u8 0, .int .i32 0, .int .i64 0, .slice N2 2 d2, .int .u8 4, .int .u8 26, .int .u8 0, .int .i32 0, .int .i64 0, .slice N4 1 d4] 75)) v3.heap.size 75 #[.int .u8 5, .int .u8 20, .int .u8 0, .int .i32 0, .int .i64 0, .slice N1 2 d1, .int .u8 4, .int .u8 26, .int .u8 0, .int .i32 0, .int .i64 0, .slice N3 1 d3, .int .u8 5, .int .u8 21, .int .u8 0, .int .i32 0, .int .i64 0, .slice N2 2 d2, .int .u8 4, .int .u8 26, .int .u8 0, .int .i32 0, .int .i64 0, .slice N4 1 d4]) := Lib.hid (boxS_new v3 _ _)
  clear M0 M1 M2 CG CV3 CV4 Z3 Z4 HM r0 r1 r2 r3 r4 r5 t0 t1 t2 t3 t4 t5 e0 e1 e2 e3 e4 e5 f0 f1 f2 f3 f4 f5
  generalize v3.alloc (.cells #[.int .u8 5, .int .u8 20, .int .u8 0, .int .i32 0, .int .i64 0, .slice N1 2 d1, .int .u8 4, .int .u8 26, .int .u8 0, .int .i32 0, .int .i64 0, .slice N3 1 d3, .int .u8 5, .int .u8 21, .int .u8 0, .int .i32 0, .int .i64 0, .slice N2 2 d2, .int .u8 4, .int .u8 26, .int .u8 0, .int .i32 0, .int .i64 0, .slice N4 1 d4] 75) = V4 at *
  generalize v3.heap.size = sl at *
  have E1 := Lib.hid (mor_1 s hm3)
  have E2 := Lib.hid (mor_2 s hm4)
  rw [E1.out] at CE1
  rw [E2.out] at CE2
  unfold apR at CE CE1 CE2 CE3 CE4
  obtain ⟨z3, hz3⟩ : ∃ z, (valK s (norX a b)).isSome = z := ⟨_, rfl⟩
  obtain ⟨z4, hz4⟩ : ∃ z, (valK s (nandX a b)).isSome = z := ⟨_, rfl⟩
  obtain ⟨x3, hx3⟩ : ∃ x, (valK s (norX a b)).getD 0 = x := ⟨_, rfl⟩
  obtain ⟨x4, hx4⟩ : ∃ x, (valK s (nandX a b)).getD 0 = x := ⟨_, rfl⟩
  rw [hz3, hx3] at CE1 CE3
  rw [hz4, hx4] at CE2 CE4
  clear hz3 hz4 hx3 hx4 E1 E2
  go_loopw [58] (fun ι wr => ∃ k : Nat, k ≤ 2 ∧ ι = .int .i64 k ∧ Hid (MgS w wr s S sc a b A n c p1 p2 p3 p4 N1 N2 N3 N4 d1 d2 d3 d4) ∧ Hid (BoxS wr sl 75 #[.int .u8 5, .int .u8 20, .int .u8 0, .int .i32 0, .int .i64 0, .slice N1 2 d1, .int .u8 4, .int .u8 26, .int .u8 0, .int .i32 0, .int .i64 0, .slice N3 1 d3, .int .u8 5, .int .u8 21, .int .u8 0, .int .i32 0, .int .i64 0, .slice N2 2 d2, .int .u8 4, .int .u8 26, .int .u8 0, .int .i32 0, .int .i64 0, .slice N4 1 d4])) (fun ι _ => 2 - (intOf ι).toNat)
  case atStart => exact ⟨0, Nat.zero_le _, rfl, M3, B3⟩
  case round =>
    obtain ⟨k, hk, rfl, M, BB⟩ := hrel
    clear M3 B3
    by_cases hlt : k < 2
    · rcases (show k = 0 ∨ k = 1 by omega) with rfl | rfl
      · have qx : (x3 == x3) = true := by simp
        have qz : (z3 == z3) = true := by simp
        have MN : Hid (MgS w (wr.alloc (.cells #[.int .u8 5, .int .u8 20, .int .u8 0, .int .i32 0, .int .i64 0, .slice N1 2 d1, .int .u8 4, .int .u8 26, .int .u8 0, .int .i32 0, .int .i64 0, .slice N3 1 d3] 75)) s S sc a b A n c p1 p2 p3 p4 N1 N2 N3 N4 d1 d2 d3 d4) := Lib.hid (M.out.step (bal (b0 wr) _))
        have BN : Hid (BoxS (wr.alloc (.cells #[.int .u8 5, .int .u8 20, .int .u8 0, .int .i32 0, .int .i64 0, .slice N1 2 d1, .int .u8 4, .int .u8 26, .int .u8 0, .int .i32 0, .int .i64 0, .slice N3 1 d3] 75)) wr.heap.size 75 #[.int .u8 5, .int .u8 20, .int .u8 0, .int .i32 0, .int .i64 0, .slice N1 2 d1, .int .u8 4, .int .u8 26, .int .u8 0, .int .i32 0, .int .i64 0, .slice N3 1 d3]) := Lib.hid (boxS_new wr _ _)
        have HC := Lib.hid fun X (h : BoxS X wr.heap.size 75 #[.int .u8 5, .int .u8 20, .int .u8 0, .int .i32 0, .int .i64 0, .slice N1 2 d1, .int .u8 4, .int .u8 26, .int .u8 0, .int .i32 0, .int .i64 0, .slice N3 1 d3]) => box12 h
        obtain ⟨s0, s1, s2, s3, s4, s5, s6, s7, s8, s9, s10, s11⟩ := box24a BB.out
        obtain ⟨t0, t1, t2, t3, t4, t5, t6, t7, t8, t9, t10, t11⟩ := HC.out _ BN.out
        have BBN : Hid (BoxS (wr.alloc (.cells #[.int .u8 5, .int .u8 20, .int .u8 0, .int .i32 0, .int .i64 0, .slice N1 2 d1, .int .u8 4, .int .u8 26, .int .u8 0, .int .i32 0, .int .i64 0, .slice N3 1 d3] 75)) sl 75 #[.int .u8 5, .int .u8 20, .int .u8 0, .int .i32 0, .int .i64 0, .slice N1 2 d1, .int .u8 4, .int .u8 26, .int .u8 0, .int .i32 0, .int .i64 0, .slice N3 1 d3, .int .u8 5, .int .u8 21, .int .u8 0, .int .i32 0, .int .i64 0, .slice N2 2 d2, .int .u8 4, .int .u8 26, .int .u8 0, .int .i32 0, .int .i64 0, .slice N4 1 d4]) := Lib.hid (BB.out.below (bal (b0 wr) _))
        go_upto_region 8 with fail
        generalize wr.alloc (.cells #[.int .u8 5, .int .u8 20, .int .u8 0, .int .i32 0, .int .i64 0, .slice N1 2 d1, .int .u8 4, .int .u8 26, .int .u8 0, .int .i32 0, .int .i64 0, .slice N3 1 d3] 75) = V5 at *
        generalize wr.heap.size = ps at *
        cases z3 <;>
          (go_wp2_with (first
            | (go_at_call 19; (with_reducible refine (CE1.out _ MN).mono ?_); rintro en v6 ⟨rfl, bb⟩; have M6 := Lib.hid (MN.out.step bb); have B6 := Lib.hid (BN.out.below bb); have BB6 := Lib.hid (BBN.out.below bb); clear bb; clear t0 t1 t2 t3 t4 t5 t6 t7 t8 t9 t10 t11; obtain ⟨t0, t1, t2, t3, t4, t5, t6, t7, t8, t9, t10, t11⟩ := HC.out _ B6.out)
            | (go_at_call 19; (with_reducible refine (CE3.out _ M6).mono ?_); rintro en v7 ⟨rfl, bb⟩; have M7 := Lib.hid (M6.out.step bb); have BB7 := Lib.hid (BB6.out.below bb); clear bb; clear t0 t1 t2 t3 t4 t5 t6 t7 t8 t9 t10 t11))
           go_roundw
           case rel => exact ⟨1, by omega, by go_num, M7, BB7⟩
           case measure => simp [intOf])
      · have qx : (x4 == x4) = true := by simp
        have qz : (z4 == z4) = true := by simp
        have MN : Hid (MgS w (wr.alloc (.cells #[.int .u8 5, .int .u8 21, .int .u8 0, .int .i32 0, .int .i64 0, .slice N2 2 d2, .int .u8 4, .int .u8 26, .int .u8 0, .int .i32 0, .int .i64 0, .slice N4 1 d4] 75)) s S sc a b A n c p1 p2 p3 p4 N1 N2 N3 N4 d1 d2 d3 d4) := Lib.hid (M.out.step (bal (b0 wr) _))
        have BN : Hid (BoxS (wr.alloc (.cells #[.int .u8 5, .int .u8 21, .int .u8 0, .int .i32 0, .int .i64 0, .slice N2 2 d2, .int .u8 4, .int .u8 26, .int .u8 0, .int .i32 0, .int .i64 0, .slice N4 1 d4] 75)) wr.heap.size 75 #[.int .u8 5, .int .u8 21, .int .u8 0, .int .i32 0, .int .i64 0, .slice N2 2 d2, .int .u8 4, .int .u8 26, .int .u8 0, .int .i32 0, .int .i64 0, .slice N4 1 d4]) := Lib.hid (boxS_new wr _ _)
        have HC := Lib.hid fun X (h : BoxS X wr.heap.size 75 #[.int .u8 5, .int .u8 21, .int .u8 0, .int .i32 0, .int .i64 0, .slice N2 2 d2, .int .u8 4, .int .u8 26, .int .u8 0, .int .i32 0, .int .i64 0, .slice N4 1 d4]) => box12 h
        obtain ⟨s0, s1, s2, s3, s4, s5, s6, s7, s8, s9, s10, s11⟩ := box24b BB.out
        obtain ⟨t0, t1, t2, t3, t4, t5, t6, t7, t8, t9, t10, t11⟩ := HC.out _ BN.out
        have BBN : Hid (BoxS (wr.alloc (.cells #[.int .u8 5, .int .u8 21, .int .u8 0, .int .i32 0, .int .i64 0, .slice N2 2 d2, .int .u8 4, .int .u8 26, .int .u8 0, .int .i32 0, .int .i64 0, .slice N4 1 d4] 75)) sl 75 #[.int .u8 5, .int .u8 20, .int .u8 0, .int .i32 0, .int .i64 0, .slice N1 2 d1, .int .u8 4, .int .u8 26, .int .u8 0, .int .i32 0, .int .i64 0, .slice N3 1 d3, .int .u8 5, .int .u8 21, .int .u8 0, .int .i32 0, .int .i64 0, .slice N2 2 d2, .int .u8 4, .int .u8 26, .int .u8 0, .int .i32 0, .int .i64 0, .slice N4 1 d4]) := Lib.hid (BB.out.below (bal (b0 wr) _))
        go_upto_region 8 with fail
        generalize wr.alloc (.cells #[.int .u8 5, .int .u8 21, .int .u8 0, .int .i32 0, .int .i64 0, .slice N2 2 d2, .int .u8 4, .int .u8 26, .int .u8 0, .int .i32 0, .int .i64 0, .slice N4 1 d4] 75) = V5 at *
        generalize wr.heap.size = ps at *
        cases z4 <;>
          (go_wp2_with (first
            | (go_at_call 19; (with_reducible refine (CE2.out _ MN).mono ?_); rintro en v6 ⟨rfl, bb⟩; have M6 := Lib.hid (MN.out.step bb); have B6 := Lib.hid (BN.out.below bb); have BB6 := Lib.hid (BBN.out.below bb); clear bb; clear t0 t1 t2 t3 t4 t5 t6 t7 t8 t9 t10 t11; obtain ⟨t0, t1, t2, t3, t4, t5, t6, t7, t8, t9, t10, t11⟩ := HC.out _ B6.out)
            | (go_at_call 19; (with_reducible refine (CE4.out _ M6).mono ?_); rintro en v7 ⟨rfl, bb⟩; have M7 := Lib.hid (M6.out.step bb); have BB7 := Lib.hid (BB6.out.below bb); clear bb; clear t0 t1 t2 t3 t4 t5 t6 t7 t8 t9 t10 t11))
           go_roundw
           case rel => exact ⟨2, by omega, by go_num, M7, BB7⟩
           case measure => simp [intOf])
    · obtain rfl : k = 2 := by omega
      obtain ⟨e0, e1, e2, e3, e4, e5⟩ := ZA.out _ M
      clear CE1 CE2 CE3 CE4 BB
      cases hva : valK s a with
      | none =>
        rw [hva] at CE
        dsimp only [Option.getD_none, Option.isSome_none] at CE
        clear hva
        go_wp2_with (first
        | (go_at_call 19; (with_reducible refine (CE.out _ M).mono ?_); rintro en v6 ⟨rfl, bb⟩; have M6 := Lib.hid (M.out.step bb); clear bb; clear e0 e1 e2 e3 e4 e5)
        | (go_at_call 12; (with_reducible refine (CA.out _ M6).mono ?_); rintro en v9 ⟨rfl, bb⟩; have M9 := Lib.hid (M6.out.step bb); clear bb))
        go_ret
        exact ⟨rfl, M9.out.bel⟩
      | some v =>
        rw [hva] at CE
        dsimp only [Option.getD_some, Option.isSome_some] at CE
        by_cases hv0 : v = 0
        · subst hv0
          rw [mor_0 s hm3 hva] at CI1
          clear hva
          go_wp2_with (first
          | (go_at_call 19; (with_reducible refine (CE.out _ M).mono ?_); rintro en v6 ⟨rfl, bb⟩; have M6 := Lib.hid (M.out.step bb); clear bb; clear e0 e1 e2 e3 e4 e5; obtain ⟨r0, r1, r2, r3, r4, r5⟩ := Z1.out _ M6)
          | (go_at_call 29; (with_reducible refine (CI1.out _ M6).mono ?_); rintro en v7 ⟨rfl, bb⟩; have M7 := Lib.hid (M6.out.step bb); clear bb; clear r0 r1 r2 r3 r4 r5)
          | (go_at_call 12; (with_reducible refine (CA.out _ M7).mono ?_); rintro en v9 ⟨rfl, bb⟩; have M9 := Lib.hid (M7.out.step bb); clear bb))
          go_ret
          exact ⟨rfl, M9.out.bel⟩
        by_cases hv1 : v = 1
        · subst hv1
          rw [mor_3 s hm4 hva] at CI2
          clear hva hv0
          go_wp2_with (first
          | (go_at_call 19; (with_reducible refine (CE.out _ M).mono ?_); rintro en v6 ⟨rfl, bb⟩; have M6 := Lib.hid (M.out.step bb); clear bb; clear e0 e1 e2 e3 e4 e5; obtain ⟨t0, t1, t2, t3, t4, t5⟩ := Z2.out _ M6)
          | (go_at_call 29; (with_reducible refine (CI2.out _ M6).mono ?_); rintro en v7 ⟨rfl, bb⟩; have M7 := Lib.hid (M6.out.step bb); clear bb; clear t0 t1 t2 t3 t4 t5)
          | (go_at_call 12; (with_reducible refine (CA.out _ M7).mono ?_); rintro en v9 ⟨rfl, bb⟩; have M9 := Lib.hid (M7.out.step bb); clear bb))
          go_ret
          exact ⟨rfl, M9.out.bel⟩
        rw [mor_n s hm3 hva hv0 hv1] at CF
        have n0 : (v != 0) = true := by simp; exact hv0
        have n1 : (v != 1) = true := by simp; exact hv1
        clear hva hv0 hv1
        go_wp2_with (first
        | (go_at_call 19; (with_reducible refine (CE.out _ M).mono ?_); rintro en v6 ⟨rfl, bb⟩; have M6 := Lib.hid (M.out.step bb); clear bb; clear e0 e1 e2 e3 e4 e5)
        | (go_at_call 12; (with_reducible refine (CA.out _ M6).mono ?_); rintro en v9 ⟨rfl, bb⟩; have M7 := Lib.hid (M6.out.step bb); clear bb; obtain ⟨r0, r1, r2, r3, r4, r5⟩ := Z1.out _ M7)
        | (go_at_call 34; (with_reducible refine (CF.out _ M7).mono ?_); rintro en v7 ⟨rfl, bb⟩; have M9 := Lib.hid (M7.out.step bb); clear bb; clear r0 r1 r2 r3 r4 r5))
        go_ret
        exact ⟨rfl, M9.out.bel⟩
end Go.Proofs.YtblckajejohlbaaDoor
