/- What the program reads a text as. -/
import Derived.Test.YtjdjkdgdbdenpaaDoorM08
set_option linter.unusedVariables false
set_option linter.unusedSimpArgs false
namespace Go.Proofs.YtjdjkdgdbdenpaaDoor
open Go Go.RowKit

/-- An instruction and an error, handed back. -/
def RetI (f a e : Int) (w : World) (x : Ending) (w' : World) : Prop := x = .returned (.tuple #[.agg #[.int .u8 f, .int .i32 a], .int .i64 e]) ∧ Below w.heap.size w w'
theorem retI_eq {f a e f' a' e' : Int} {w w' : World} {x : Ending} (h : RetI f a e w x w') (h1 : f = f') (h2 : a = a') (h3 : e = e') : RetI f' a' e' w x w' := by subst h1 h2 h3; exact h
theorem rd_none {l : List UInt8} (h : findI (hd l) = none) : rdI l = (0, 0, 50) := by unfold rdI; rw [h]
theorem rd_op {l : List UInt8} {p : Int × Int} (h : findI (hd l) = some p) (hp : p.1 = 15) (hs : hasSp l = false) : rdI l = (15, p.2, 0) := by
  unfold rdI; rw [h]; simp only; rw [if_pos hp, hs, if_neg (by decide), hp]
theorem rd_op_sp {l : List UInt8} {p : Int × Int} (h : findI (hd l) = some p) (hp : p.1 = 15) (hs : hasSp l = true) : rdI l = (0, 0, 5) := by
  unfold rdI; rw [h]; simp only; rw [if_pos hp, if_pos hs]
theorem rd_fn_no {l : List UInt8} {p : Int × Int} (h : findI (hd l) = some p) (hp : p.1 ≠ 15) (hs : hasSp l = false) : rdI l = (0, 0, 5) := by
  unfold rdI; rw [h]; simp only; rw [if_neg hp, hs, if_neg (by decide)]
theorem rd_fn_bad {l : List UInt8} {p : Int × Int} (h : findI (hd l) = some p) (hp : p.1 ≠ 15) (hs : hasSp l = true) (hr : (readC (tl l)).2 ≠ 0) : rdI l = (0, 0, 5) := by
  unfold rdI; rw [h]; simp only; rw [if_neg hp, if_pos hs, if_neg hr]
theorem rd_fn_ok {l : List UInt8} {p : Int × Int} (h : findI (hd l) = some p) (hp : p.1 ≠ 15) (hs : hasSp l = true) (hr : (readC (tl l)).2 = 0) : rdI l = (p.1, (readC (tl l)).1, 0) := by
  unfold rdI; rw [h]; simp only; rw [if_neg hp, if_pos hs, if_pos hr]
theorem named_at (w : World) (hg : Good w) {l : List UInt8} {f a : Int} {o : Bool} (h1 : ndF l = f) (h2 : ndA l = a) (h3 : ndO l = o) (W : World) (b : Below w.heap.size w W) :
    Calls Tryd.prog 65 #[.string (strOf l)] W fun e w' => e = .returned (.tuple #[.agg #[.int .u8 f, .int .i32 a], .bool o]) ∧ Below W.heap.size W w' := by
  have h := Named_any (strOf l) W (hg.1.below b)
  rw [strOf_data, h1, h2, h3] at h
  exact h
theorem word_at (w : World) (hg : Good w) {l : List UInt8} {v e : Int} (h1 : readC l = (v, e)) (W : World) (b : Below w.heap.size w W) :
    Calls Tryd.prog 74 #[.string (strOf l)] W fun x w' => x = .returned (.tuple #[.int .i32 v, .int .i64 e]) ∧ Below W.heap.size W w' := by
  have h := Read_any (strOf l) W (hg.2.below b)
  rw [strOf_data, h1] at h
  exact h
theorem BoxS.below {X Y : World} {k : Nat} {t : TypeId} {cs : Array Value} (h : BoxS X k t cs) (b : Below X.heap.size X Y) : BoxS Y k t cs := h.grown (g_of_below b)
theorem boxf {W : World} {k : Nat} {t : TypeId} {a b : Value} (h : BoxS W k t #[a, b]) : W.cell? ⟨k, 0, none⟩ = some a ∧ W.cell? ⟨k, 1, none⟩ = some b ∧ W.frozen? ⟨k, 0, none⟩ = false ∧ W.frozen? ⟨k, 1, none⟩ = false ∧ k < W.heap.size :=
  ⟨by simpa using h.cell 0, by simpa using h.cell 1, h.frozen 0, h.frozen 1, h.lt⟩
/-- The three calls of Read, and what is known behind each. -/
theorem box_at {w W : World} {t : TypeId} {cs : Array Value} (n : Nat) (b : Below ((w.alloc (.cells cs t)).drewN n).heap.size ((w.alloc (.cells cs t)).drewN n) W) : BoxS W w.heap.size t cs :=
  BoxS.below (X := (w.alloc (.cells cs t)).drewN n) (boxS_new w t cs) b
set_option maxHeartbeats 2000000 in
theorem Read_is (s : ByteArray) (hs : s.size ≤ maxLen) (w : World) (hg : Good w) :
    Calls Tryd.prog 64 #[.string s] w (RetI (rdI s.data.toList).1 (rdI s.data.toList).2.1 (rdI s.data.toList).2.2 w) := by
  have CC := Lib.hid (Cut_any s hs)
  generalize s.data.toList = l at *
  cases hf : findI (hd l) with
  | none =>
    obtain ⟨n1, n2, n3⟩ := nd_none hf
    rw [rd_none hf]
    have CN := Lib.hid (named_at w hg n1 n2 n3)
    clear hf n1 n2 n3 hg hs
    generalize hasSp l = sp at *
    unfold RetI
    go_enter Tryd.func64, Tryd.ntmps64
    go_wp2_with (first
      | (go_at_call 44; refine (CC.out _).mono ?_; rintro e w1 ⟨rfl, n, rfl⟩)
      | (go_at_call 65; refine (CN.out _ (bdrew (bal (b0 _) _) _)).mono ?_; rintro e w2 ⟨rfl, b2⟩; obtain ⟨r1, r2, r3, r4, r5⟩ := boxf (box_at _ b2); have B2 := Lib.hid (blw (bdrew (bal (b0 w) _) _) b2); clear b2))
    exact bodyPost_ret (v := .tuple #[.agg #[.int .u8 0, .int .i32 0], .int .i64 50]) (by simp [results, Tryd.results64, go_sem, r1, r2, r5]) rfl
      ⟨rfl, bal (bset (bset B2.out (Nat.le_refl _) _) (Nat.le_refl _) _) _⟩
  | some p =>
    obtain ⟨n1, n2, n3⟩ := nd_some hf
    have CN := Lib.hid (named_at w hg n1 n2 n3)
    clear n1 n2 n3
    by_cases hp : p.1 = 15
    · cases hsp : hasSp l
      · rw [rd_op hf hp hsp]
        have h15 : (p.1 != 15) = false := by simpa using hp
        have hP := Lib.hid hp
        rw [hsp] at CC
        clear hf hsp hp hg hs
        obtain ⟨p1, p2⟩ := p
        simp only at CN h15 hP
        unfold RetI
        rw [← hP.out]
        go_enter Tryd.func64, Tryd.ntmps64
        go_wp2_with (first
      | (go_at_call 44; refine (CC.out _).mono ?_; rintro e w1 ⟨rfl, n, rfl⟩)
      | (go_at_call 65; refine (CN.out _ (bdrew (bal (b0 _) _) _)).mono ?_; rintro e w2 ⟨rfl, b2⟩; have R2 := Lib.hid (box_at _ b2); obtain ⟨r1, r2, r3, r4, r5⟩ := boxf R2.out; have B2 := Lib.hid (blw (bdrew (bal (b0 w) _) _) b2); clear b2)
      | (go_at_call 56; refine (hasOp_any p1 p2 _).mono ?_; rintro e w3 ⟨rfl, b3⟩; rw [h15]; have R3 := Lib.hid ((R2.out.grown (World.grownBy_alloc _ _ none)).below b3); have X3 := Lib.hid (BoxS.below (boxS_new w2 _ _) b3); obtain ⟨s1, s2, s3, s4, s5⟩ := boxf R3.out; obtain ⟨x1, x2, x3, x4, x5⟩ := boxf X3.out; have Z3 := Lib.hid B2.out.size; have B3 := Lib.hid (blw (bal B2.out _) b3); clear b3))
        exact bodyPost_ret (v := .tuple #[.agg #[.int .u8 p1, .int .i32 p2], .int .i64 0]) (by simp [results, Tryd.results64, go_sem, s1, s2]) rfl
          ⟨rfl, bset (bset B3.out (Nat.le_refl _) _) (Nat.le_refl _) _⟩
      · rw [rd_op_sp hf hp hsp]
        have h15 : (p.1 != 15) = false := by simpa using hp
        rw [hsp] at CC
        clear hf hsp hp hg hs
        obtain ⟨p1, p2⟩ := p
        simp only at CN h15
        unfold RetI
        go_enter Tryd.func64, Tryd.ntmps64
        go_wp2_with (first
      | (go_at_call 44; refine (CC.out _).mono ?_; rintro e w1 ⟨rfl, n, rfl⟩)
      | (go_at_call 65; refine (CN.out _ (bdrew (bal (b0 _) _) _)).mono ?_; rintro e w2 ⟨rfl, b2⟩; have R2 := Lib.hid (box_at _ b2); obtain ⟨r1, r2, r3, r4, r5⟩ := boxf R2.out; have B2 := Lib.hid (blw (bdrew (bal (b0 w) _) _) b2); clear b2)
      | (go_at_call 56; refine (hasOp_any p1 p2 _).mono ?_; rintro e w3 ⟨rfl, b3⟩; rw [h15]; have R3 := Lib.hid ((R2.out.grown (World.grownBy_alloc _ _ none)).below b3); have X3 := Lib.hid (BoxS.below (boxS_new w2 _ _) b3); obtain ⟨s1, s2, s3, s4, s5⟩ := boxf R3.out; obtain ⟨x1, x2, x3, x4, x5⟩ := boxf X3.out; have Z3 := Lib.hid B2.out.size; have B3 := Lib.hid (blw (bal B2.out _) b3); clear b3))
        exact bodyPost_ret (v := .tuple #[.agg #[.int .u8 0, .int .i32 0], .int .i64 5]) (by simp [results, Tryd.results64, go_sem, s1, s2]) rfl
          ⟨rfl, bset (bset B3.out (Nat.le_refl _) _) (Nat.le_refl _) _⟩
    · cases hsp : hasSp l
      · rw [rd_fn_no hf hp hsp]
        have h15 : (p.1 != 15) = true := by simpa using hp
        rw [hsp] at CC
        clear hf hsp hp hg hs
        obtain ⟨p1, p2⟩ := p
        simp only at CN h15
        unfold RetI
        go_enter Tryd.func64, Tryd.ntmps64
        go_wp2_with (first
      | (go_at_call 44; refine (CC.out _).mono ?_; rintro e w1 ⟨rfl, n, rfl⟩)
      | (go_at_call 65; refine (CN.out _ (bdrew (bal (b0 _) _) _)).mono ?_; rintro e w2 ⟨rfl, b2⟩; have R2 := Lib.hid (box_at _ b2); obtain ⟨r1, r2, r3, r4, r5⟩ := boxf R2.out; have B2 := Lib.hid (blw (bdrew (bal (b0 w) _) _) b2); clear b2)
      | (go_at_call 56; refine (hasOp_any p1 p2 _).mono ?_; rintro e w3 ⟨rfl, b3⟩; rw [h15]; have R3 := Lib.hid ((R2.out.grown (World.grownBy_alloc _ _ none)).below b3); have X3 := Lib.hid (BoxS.below (boxS_new w2 _ _) b3); obtain ⟨s1, s2, s3, s4, s5⟩ := boxf R3.out; obtain ⟨x1, x2, x3, x4, x5⟩ := boxf X3.out; have Z3 := Lib.hid B2.out.size; have B3 := Lib.hid (blw (bal B2.out _) b3); clear b3))
        exact bodyPost_ret (v := .tuple #[.agg #[.int .u8 0, .int .i32 0], .int .i64 5]) (by simp [results, Tryd.results64, go_sem, s1, s2]) rfl
          ⟨rfl, bset (bset B3.out (Nat.le_refl _) _) (Nat.le_refl _) _⟩
      · have h15 : (p.1 != 15) = true := by simpa using hp
        rw [hsp] at CC
        obtain ⟨v, er, hve⟩ : ∃ v er, readC (tl l) = (v, er) := ⟨_, _, rfl⟩
        have CW := Lib.hid (word_at w hg hve)
        by_cases her : er = 0
        · subst her
          rw [rd_fn_ok hf hp hsp (by rw [hve]), hve]
          clear hf hsp hp hg hs hve
          obtain ⟨p1, p2⟩ := p
          simp only at CN h15
          unfold RetI
          go_enter Tryd.func64, Tryd.ntmps64
          go_wp2_with (first
      | (go_at_call 44; refine (CC.out _).mono ?_; rintro e w1 ⟨rfl, n, rfl⟩)
      | (go_at_call 65; refine (CN.out _ (bdrew (bal (b0 _) _) _)).mono ?_; rintro e w2 ⟨rfl, b2⟩; have R2 := Lib.hid (box_at _ b2); obtain ⟨r1, r2, r3, r4, r5⟩ := boxf R2.out; have B2 := Lib.hid (blw (bdrew (bal (b0 w) _) _) b2); clear b2)
      | (go_at_call 56; refine (hasOp_any p1 p2 _).mono ?_; rintro e w3 ⟨rfl, b3⟩; rw [h15]; have R3 := Lib.hid ((R2.out.grown (World.grownBy_alloc _ _ none)).below b3); have X3 := Lib.hid (BoxS.below (boxS_new w2 _ _) b3); obtain ⟨s1, s2, s3, s4, s5⟩ := boxf R3.out; obtain ⟨x1, x2, x3, x4, x5⟩ := boxf X3.out; have Z3 := Lib.hid B2.out.size; have B3 := Lib.hid (blw (bal B2.out _) b3); clear b3)
      | (go_at_call 74; refine (CW.out _ B3.out).mono ?_; rintro e w4 ⟨rfl, b4⟩; obtain ⟨u1, u2, u3, u4, u5⟩ := boxf (R3.out.below b4); obtain ⟨v1, v2, v3, v4, v5⟩ := boxf (X3.out.below b4); have B4 := Lib.hid (blw B3.out b4); clear b4))
          exact bodyPost_ret (v := .tuple #[.agg #[.int .u8 p1, .int .i32 v], .int .i64 0]) (by simp [results, Tryd.results64, go_sem, u1, u2]) rfl
            ⟨rfl, bset (bset (bset B4.out Z3.out _) (Nat.le_refl _) _) (Nat.le_refl _) _⟩
        · rw [rd_fn_bad hf hp hsp (by rw [hve]; exact her)]
          have her' : (er != 0) = true := by simpa using her
          clear hf hsp hp hg hs hve her
          obtain ⟨p1, p2⟩ := p
          simp only at CN h15
          unfold RetI
          go_enter Tryd.func64, Tryd.ntmps64
          go_wp2_with (first
      | (go_at_call 44; refine (CC.out _).mono ?_; rintro e w1 ⟨rfl, n, rfl⟩)
      | (go_at_call 65; refine (CN.out _ (bdrew (bal (b0 _) _) _)).mono ?_; rintro e w2 ⟨rfl, b2⟩; have R2 := Lib.hid (box_at _ b2); obtain ⟨r1, r2, r3, r4, r5⟩ := boxf R2.out; have B2 := Lib.hid (blw (bdrew (bal (b0 w) _) _) b2); clear b2)
      | (go_at_call 56; refine (hasOp_any p1 p2 _).mono ?_; rintro e w3 ⟨rfl, b3⟩; rw [h15]; have R3 := Lib.hid ((R2.out.grown (World.grownBy_alloc _ _ none)).below b3); have X3 := Lib.hid (BoxS.below (boxS_new w2 _ _) b3); obtain ⟨s1, s2, s3, s4, s5⟩ := boxf R3.out; obtain ⟨x1, x2, x3, x4, x5⟩ := boxf X3.out; have Z3 := Lib.hid B2.out.size; have B3 := Lib.hid (blw (bal B2.out _) b3); clear b3)
      | (go_at_call 74; refine (CW.out _ B3.out).mono ?_; rintro e w4 ⟨rfl, b4⟩; obtain ⟨u1, u2, u3, u4, u5⟩ := boxf (R3.out.below b4); obtain ⟨v1, v2, v3, v4, v5⟩ := boxf (X3.out.below b4); have B4 := Lib.hid (blw B3.out b4); clear b4))
          exact bodyPost_ret (v := .tuple #[.agg #[.int .u8 0, .int .i32 0], .int .i64 5]) (by simp [results, Tryd.results64, go_sem, u1, u2]) rfl
            ⟨rfl, bset (bset B4.out (Nat.le_refl _) _) (Nat.le_refl _) _⟩
end Go.Proofs.YtjdjkdgdbdenpaaDoor
/- A function whose text runs straight on: its call reckoned by the kernel. -/
namespace Go.Proofs.YtjdjkdgdbdenpaaDoor
open Go Go.RowKit

/-- Operations that end in a value, one behind the other. -/
def runOps (P : Program) (ops : Array Oper) : List Nat → Act → World → Option (Act × World)
  | [], a, w => some (a, w)
  | i :: rest, a, w =>
    match ops[i]? with
    | none => runOps P ops rest a w
    | some o =>
      if Region.wanted o (yielded ops a.tmps) then
        match (execOp a.eval o).run P w with
        | .ok (.value v) w' => runOps P ops rest (a.put o.dst v) w'
        | .ok .skip w' => runOps P ops rest (a.put o.dst undef) w'
        | _ => none
      else runOps P ops rest (a.put o.dst undef) w
theorem wpOps_of_run {P : Program} {ops : Array Oper} {Q : Exit → Act → World → Prop} : ∀ (l : List Nat) (a : Act) (w : World) (a' : Act) (w' : World),
    runOps P ops l a w = some (a', w') → Q .normal a' w' → wpOps P ops Q l a w
  | [], a, w, a', w', h, hq => by
    simp only [runOps, Option.some.injEq, Prod.mk.injEq] at h
    obtain ⟨rfl, rfl⟩ := h
    exact hq
  | i :: rest, a, w, a', w', h, hq => by
    unfold runOps at h
    unfold wpOps
    cases ho : ops[i]? with
    | none =>
      rw [ho] at h
      exact wpOps_of_run rest a w a' w' h hq
    | some o =>
      rw [ho] at h
      simp only at h ⊢
      by_cases hw : Region.wanted o (yielded ops a.tmps)
      · rw [if_pos hw] at h ⊢
        refine .inl ?_
        unfold Oper.wp
        generalize (execOp a.eval o).run P w = r at h ⊢
        split at h
        · exact wpOps_of_run rest _ _ a' w' h hq
        · exact wpOps_of_run rest _ _ a' w' h hq
        · cases h
      · rw [if_neg hw] at h ⊢
        exact wpOps_of_run rest _ w a' w' h hq
/-- Two regions and the return. -/
def runFn (P : Program) (fn : Func) (ops0 ops1 : Array Oper) (args : Array Value) (w : World) : Option (Value × World × World) :=
  match runOps P ops0 (List.range ops0.size) { tmps := args ++ Array.replicate (fn.ntmps - args.size) undef, defers := [] } w with
  | none => none
  | some (a1, w1) =>
    match runOps P ops1 (List.range ops1.size) a1 w1 with
    | none => none
    | some (a2, w2) =>
      match a2.defers, (results fn a2.tmps).run P w2 with
      | [], .ok v w3 => some (v, w2, w3)
      | _, _ => none
theorem calls_straight {P : Program} {f : FuncId} {fn : Func} {i0 i1 : Nat} {ops0 ops1 : Array Oper} {args : Array Value} {w W : World} {v : Value}
    (hf : P.funcs[f]? = some fn) (hb : fn.body = some (.seq (.region i0 ops0 false) (.seq (.region i1 ops1 false) .ret)))
    (hx : runFn P fn ops0 ops1 args w = some (v, W, W)) : Calls P f args w fun e w' => e = .returned v ∧ w' = W := by
  refine calls_of_wp hf hb ?_
  unfold runFn at hx
  split at hx
  · cases hx
  · rename_i a1 w1 h1
    split at hx
    · cases hx
    · rename_i a2 w2 h2
      split at hx
      · rename_i v' w3 hd hr
        simp only [Option.some.injEq, Prod.mk.injEq] at hx
        obtain ⟨rfl, rfl, rfl⟩ := hx
        refine wp_seq (wp_region (wpOps_of_run _ _ _ a1 w1 h1 ?_))
        refine wp_seq (wp_region (wpOps_of_run _ _ _ a2 _ h2 ?_))
        refine wp_ret ?_
        exact ⟨hd, v', hr, rfl, rfl⟩
      · cases hx
end Go.Proofs.YtjdjkdgdbdenpaaDoor
