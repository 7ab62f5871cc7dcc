/- The laws: FoldLaws. -/
import Derived.Test.YtimbiobonigdmaaDoorFla
import Derived.Test.YtimbiobonigdmaaDoorM16
import Derived.Deep.CutRange
import Derived.Laws.EntriesVeiled
set_option linter.unusedVariables false
set_option linter.unusedSimpArgs false
namespace Go.Proofs.YtimbiobonigdmaaDoor
open Go Go.RowKit L8 L10 L14

/-- Apply, by what it answers. -/
theorem ap_of (o : Nat) (q a b u : Int) (z : Bool) (ha : inW a) (hb : inW b) (hq : (o : Int) = q) (h1 : (apO o a b).getD 0 = u) (h2 : (apO o a b).isSome = z) (w : World) :
    Calls Tryd.prog 9 #[.int .u8 q, .int .i32 a, .int .i32 b] w fun e w' => e = .returned (.tuple #[.int .i32 u, .bool z]) ∧ Below w.heap.size w w' := ap_is o q a b u z ha hb hq ⟨h1, h2⟩ w
/-- The checked operators and those that wrap, in pairs. -/
theorem pair_ap (a b : Int) (ha : inW a) (hb : inW b) : ∀ j, j < 4 → ∃ (P Q : Nat) (y : Int), ([1, 2, 3, 23] : List Nat)[j]? = some P ∧ ([6, 7, 8, 24] : List Nat)[j]? = some Q ∧ apO Q a b = some y ∧ (apO P a b = none ∨ apO P a b = some y) := by
  intro j hj
  have key : ∀ (x : Int), fitO x = none ∨ fitO x = some (w32 x) := fun x => by
    cases h : fitO x with
    | none => exact .inl rfl
    | some u => exact .inr (by rw [checked_wrap u h])
  rcases (show j = 0 ∨ j = 1 ∨ j = 2 ∨ j = 3 by omega) with rfl | rfl | rfl | rfl
  · exact ⟨1, 6, w32 (a + b), rfl, rfl, rfl, key (a + b)⟩
  · exact ⟨2, 7, w32 (a - b), rfl, rfl, rfl, key (a - b)⟩
  · exact ⟨3, 8, w32 (a * b), rfl, rfl, rfl, key (a * b)⟩
  · exact ⟨23, 24, w32 (0 - a), rfl, rfl, rfl, key (0 - a)⟩
structure PrR (w X : World) (q : Nat) : Prop where
  b : Below w.heap.size w X
  t : T10 X
  r : BoxS X q 59 #[.int .u8 1, .int .u8 6, .int .u8 2, .int .u8 7, .int .u8 3, .int .u8 8, .int .u8 23, .int .u8 24]
theorem PrR.step {w X Y : World} {q : Nat} (h : PrR w X q) (b : Below X.heap.size X Y) : PrR w Y q := ⟨blw h.b b, h.t.below b, h.r.below b⟩
theorem PrR.at {w X : World} {q : Nat} (h : PrR w X q) {j P Q : Nat} (hP : ([1, 2, 3, 23] : List Nat)[j]? = some P) (hQ : ([6, 7, 8, 24] : List Nat)[j]? = some Q) : X.cell? ⟨q, j * 2, none⟩ = some (.int .u8 (P : Int)) ∧ X.cell? ⟨q, j * 2 + 1, none⟩ = some (.int .u8 (Q : Int)) := by
  have hj : j < 4 := by
    have := (List.getElem?_eq_some_iff.1 hP).1
    exact this
  rcases (show j = 0 ∨ j = 1 ∨ j = 2 ∨ j = 3 by omega) with rfl | rfl | rfl | rfl
  all_goals
    simp at hP hQ
    subst hP hQ
  · exact ⟨(h.r.cell 0).trans rfl, (h.r.cell 1).trans rfl⟩
  · exact ⟨(h.r.cell 2).trans rfl, (h.r.cell 3).trans rfl⟩
  · exact ⟨(h.r.cell 4).trans rfl, (h.r.cell 5).trans rfl⟩
  · exact ⟨(h.r.cell 6).trans rfl, (h.r.cell 7).trans rfl⟩
/-- Quotient and remainder. -/
theorem quot_rem (a b : Int) (ha : inW a) (hb : inW b) : (apO 5 a b).isSome = (b != 0) ∧ ((apO 4 a b).isSome = true → (b != 0) = true ∧ wrap64 (wrap64 (wrap64 ((apO 4 a b).getD 0) * wrap64 b) + wrap64 ((apO 5 a b).getD 0)) = wrap64 a) := by
  have e5 : apO 5 a b = if b = 0 then none else some (a.tmod b) := rfl
  have e4 : apO 4 a b = if b = 0 ∨ (a = -2147483648 ∧ b = -1) then none else some (a.tdiv b) := rfl
  by_cases hz : b = 0
  · rw [e5, e4, if_pos hz, if_pos (.inl hz)]
    subst hz
    exact ⟨rfl, fun h => by cases h⟩
  · rw [e5, if_neg hz]
    have hb0 : (b != 0) = true := bne_iff_ne.2 hz
    refine ⟨by rw [hb0]; rfl, fun h => ⟨hb0, ?_⟩⟩
    by_cases ho : a = -2147483648 ∧ b = -1
    · rw [e4, if_pos (.inr ho)] at h; cases h
    rw [e4, if_neg (by rintro (h | h); exact hz h; exact ho h)]
    show wrap64 (wrap64 (wrap64 (a.tdiv b) * wrap64 b) + wrap64 (a.tmod b)) = wrap64 a
    have h1 : a.tdiv b * b + a.tmod b = a := by rw [Int.mul_comm]; exact Int.mul_tdiv_add_tmod a b
    have h2 : (a.tmod b).natAbs ≤ a.natAbs := by
      have := Int.natAbs_tmod a b
      rw [this]
      exact Nat.mod_le _ _
    unfold inW at ha
    have h3 : a.tmod b ≤ 2147483648 ∧ -2147483648 ≤ a.tmod b := by omega
    have w : ∀ x : Int, -9223372036854775808 ≤ x → x ≤ 9223372036854775807 → wrap64 x = x := fun x h1 h2 => by unfold wrap64; omega
    have h4 : (a.tdiv b).natAbs ≤ a.natAbs := by rw [Int.natAbs_tdiv]; exact Nat.div_le_self _ _
    unfold inW at hb
    rw [w (a.tdiv b) (by omega) (by omega), w b (by omega) (by omega), w (a.tmod b) (by omega) (by omega), w (a.tdiv b * b) (by omega) (by omega), h1]
set_option maxRecDepth 100000 in
set_option maxHeartbeats 4000000 in
theorem got_any (o : Nat) (q a b : Int) (ha : inW a) (hb : inW b) (hq : (o : Int) = q) (w : World) :
    Calls Tryd.prog 21 #[.int .u8 q, .int .i32 a, .int .i32 b] w fun e w' => e = .returned (.int .i32 ((apO o a b).getD 0)) ∧ Below w.heap.size w w' := by
  have C := Lib.hid fun X => ap_of o q a b _ _ ha hb hq rfl rfl X
  generalize (apO o a b).getD 0 = u at *
  generalize (apO o a b).isSome = z at *
  go_enter Tryd.func21, Tryd.ntmps21
  go_wp2_with (go_at_call 9; (with_reducible refine (C.out _).mono ?_); rintro e1 w1 ⟨rfl, b1⟩; have H1 := Lib.hid b1; clear b1)
  go_ret
  exact ⟨rfl, H1.out⟩
def gotF : Value := .func (.func 21) #[] #[]
set_option maxRecDepth 100000 in
set_option maxHeartbeats 4000000 in
theorem not_any (a : Int) (ha : inW a) (q : Nat) (w : World) (hq : w.cell? ⟨q, 0, none⟩ = some (.func (.func 21) #[] #[])) :
    Calls Tryd.prog 22 #[.int .i32 a, .pointer (some ⟨q, 0, none⟩)] w fun e w' => e = .returned (.int .i32 (bits .xor .i32 (-1) a)) ∧ Below w.heap.size w w' := by
  have C : Hid (∀ X, Calls Tryd.prog 21 #[.int .u8 25, .int .i32 a, .int .i32 0] X fun e w' => e = .returned (.int .i32 (bits .xor .i32 (-1) a)) ∧ Below X.heap.size X w') := Lib.hid fun X => got_any 25 25 a 0 ha ⟨by decide, by decide⟩ rfl X
  generalize bits .xor .i32 (-1) a = u at *
  go_enter Tryd.func22, Tryd.ntmps22
  go_wp2_with (go_at_call 21; (with_reducible refine (C.out _).mono ?_); rintro e1 w1 ⟨rfl, b1⟩; have H1 := Lib.hid b1; clear b1)
  go_ret
  exact ⟨rfl, H1.out⟩
theorem b01_t {p : Prop} [Decidable p] (h : p) : b01 (decide p) = 1 := by unfold b01; rw [decide_eq_true h]; rfl
theorem b01_f {p : Prop} [Decidable p] (h : ¬ p) : b01 (decide p) = 0 := by unfold b01; rw [decide_eq_false h]; rfl
theorem cmp_lt {a b : Int} (h : a < b) : (apO 16 a b).getD 0 = 1 ∧ (apO 14 a b).getD 0 = 0 ∧ (apO 17 a b).getD 0 = 0 ∧ (apO 18 a b).getD 0 = 1 ∧ (apO 19 a b).getD 0 = 0 ∧ (apO 15 a b).getD 0 = 1 :=
  ⟨show b01 (decide (a < b)) = 1 from b01_t (by omega), show b01 (decide (a = b)) = 0 from b01_f (by omega), show b01 (decide (b < a)) = 0 from b01_f (by omega), show b01 (decide (a ≤ b)) = 1 from b01_t (by omega), show b01 (decide (b ≤ a)) = 0 from b01_f (by omega), show b01 (decide (a ≠ b)) = 1 from b01_t (by omega)⟩
theorem cmp_eq {a b : Int} (h : a = b) : (apO 16 a b).getD 0 = 0 ∧ (apO 14 a b).getD 0 = 1 ∧ (apO 17 a b).getD 0 = 0 ∧ (apO 18 a b).getD 0 = 1 ∧ (apO 19 a b).getD 0 = 1 ∧ (apO 15 a b).getD 0 = 0 :=
  ⟨show b01 (decide (a < b)) = 0 from b01_f (by omega), show b01 (decide (a = b)) = 1 from b01_t (by omega), show b01 (decide (b < a)) = 0 from b01_f (by omega), show b01 (decide (a ≤ b)) = 1 from b01_t (by omega), show b01 (decide (b ≤ a)) = 1 from b01_t (by omega), show b01 (decide (a ≠ b)) = 0 from b01_f (by omega)⟩
theorem cmp_gt {a b : Int} (h : b < a) : (apO 16 a b).getD 0 = 0 ∧ (apO 14 a b).getD 0 = 0 ∧ (apO 17 a b).getD 0 = 1 ∧ (apO 18 a b).getD 0 = 0 ∧ (apO 19 a b).getD 0 = 1 ∧ (apO 15 a b).getD 0 = 1 :=
  ⟨show b01 (decide (a < b)) = 0 from b01_f (by omega), show b01 (decide (a = b)) = 0 from b01_f (by omega), show b01 (decide (b < a)) = 1 from b01_t (by omega), show b01 (decide (a ≤ b)) = 0 from b01_f (by omega), show b01 (decide (b ≤ a)) = 1 from b01_t (by omega), show b01 (decide (a ≠ b)) = 1 from b01_t (by omega)⟩
/-- The nine ways that two words may be truth values. -/
theorem truth_cases (a b : Int) : (a = 0 ∧ b = 0) ∨ (a = 0 ∧ b = 1) ∨ (a = 1 ∧ b = 0) ∨ (a = 1 ∧ b = 1) ∨ ((a = 0 ∨ a = 1) ∧ b ≠ 0 ∧ b ≠ 1) ∨ (a ≠ 0 ∧ a ≠ 1) := by omega
theorem truth_none {a b : Int} (h : (b ≠ 0 ∧ b ≠ 1) ∨ (a ≠ 0 ∧ a ≠ 1)) : apO 20 a b = none ∧ apO 21 a b = none := by
  have e20 : apO 20 a b = if isT a = true ∧ isT b = true then some (b01 (decide (a = 1 ∧ b = 1))) else none := rfl
  have e21 : apO 21 a b = if isT a = true ∧ isT b = true then some (b01 (decide (a = 1 ∨ b = 1))) else none := rfl
  have hn : ¬ (isT a = true ∧ isT b = true) := by
    rintro ⟨h1, h2⟩
    unfold isT at h1 h2
    rw [Bool.or_eq_true, decide_eq_true_eq, decide_eq_true_eq] at h1 h2
    omega
  rw [e20, e21, if_neg hn, if_neg hn]
  exact ⟨rfl, rfl⟩
theorem eq_bit (v w : Int) : (apO 14 v w).getD 0 = 0 ∨ (apO 14 v w).getD 0 = 1 := b01_01 (decide (v = w))
/-- Behind the making of the first closure. -/
structure GoS (w X : World) (q : Nat) : Prop where
  b : Below w.heap.size w X
  t : T10 X
  x : BoxS X q 61 #[.func (.func 21) #[] #[]]
theorem GoS.c {w X : World} {q : Nat} (h : GoS w X q) : X.cell? ⟨q, 0, none⟩ = some (.func (.func 21) #[] #[]) := (h.x.cell 0).trans rfl
theorem GoS.step {w X Y : World} {q : Nat} (h : Hid (GoS w X q)) (b : Below X.heap.size X Y) : GoS w Y q := ⟨blw h.out.b b, h.out.t.below b, h.out.x.below b⟩
theorem GoS.dr {w X : World} {q : Nat} (h : Hid (GoS w X q)) : Hid (GoS w X.drew q) := Lib.hid (GoS.step h (bdrew (b0 X) 1))
theorem GoS.new {w X : World} {p : Nat} (h : Hid (PrR w X p)) : Hid (GoS w (X.alloc (.cells #[.func (.func 21) #[] #[]] 61)) X.heap.size) := Lib.hid ⟨blw h.out.b (bal (b0 X) _), h.out.t.below (bal (b0 X) _), boxS_new X _ _⟩
set_option maxRecDepth 100000 in
set_option maxHeartbeats 16000000 in
theorem walkFoldLaws (a b : Int) (ha : inW a) (hb : inW b) (w : World) (T : T10 w) : Calls Tryd.prog 6 #[.int .i32 a, .int .i32 b] w fun e w' => e = .returned (.bool true) ∧ Below w.heap.size w w' := by
  have HP := Lib.hid (pair_ap a b ha hb)
  have HAB := Lib.hid (And.intro ha hb)
  have H0 := Lib.hid (show PrR w (w.alloc (.cells #[.int .u8 1, .int .u8 6, .int .u8 2, .int .u8 7, .int .u8 3, .int .u8 8, .int .u8 23, .int .u8 24] 59)) w.heap.size from ⟨bal (b0 w) _, T.below (bal (b0 w) _), boxS_new w _ _⟩)
  clear T
  go_enter Tryd.func6, Tryd.ntmps6
  go_wp2_with fail
  generalize w.alloc (.cells #[.int .u8 1, .int .u8 6, .int .u8 2, .int .u8 7, .int .u8 3, .int .u8 8, .int .u8 23, .int .u8 24] 59) = X at *
  go_loopw [28] (fun i wr => ∃ j : Nat, j ≤ 4 ∧ i = .int .i64 (j : Int) ∧ Hid (PrR w wr w.heap.size)) (fun i _ => 4 - (intOf i).toNat)
  case atStart => exact ⟨0, by omega, rfl, H0⟩
  case round =>
    obtain ⟨j, hj, rfl, H⟩ := hrel
    have hj0 : (0 : Int) ≤ (j : Int) := by omega
    by_cases hlt : (j : Int) < 4
    · obtain ⟨P, Q, y, hP, hQ, e1, e2⟩ := HP.out j (by omega)
      obtain ⟨c0, c1⟩ := H.out.at hP hQ
      have C2 := Lib.hid fun X => ap_of Q Q a b y true HAB.out.1 HAB.out.2 rfl (by rw [e1]; rfl) (by rw [e1]; rfl) X
      rcases e2 with e2 | e2
      · have C1 := Lib.hid fun X => ap_of P P a b 0 false HAB.out.1 HAB.out.2 rfl (by rw [e2]; rfl) (by rw [e2]; rfl) X
        clear e1 e2 hP hQ
        go_wp2_with (first
          | (go_at_call 9; (with_reducible refine (C1.out _).mono ?_); rintro e1 w1 ⟨rfl, b1⟩; have H1 := Lib.hid ((H.out.step (bal (b0 wr) (.cells #[.int .u8 (P : Int), .int .u8 (Q : Int)] 59))).step b1); have bx := (boxS_new wr 59 #[.int .u8 (P : Int), .int .u8 (Q : Int)]).below b1; obtain ⟨d0, d1⟩ : w1.cell? ⟨wr.heap.size, 0, none⟩ = some (.int .u8 (P : Int)) ∧ w1.cell? ⟨wr.heap.size, 1, none⟩ = some (.int .u8 (Q : Int)) := ⟨(bx.cell 0).trans rfl, (bx.cell 1).trans rfl⟩; clear b1 bx)
          | (go_at_call 9; (with_reducible refine (C2.out _).mono ?_); rintro e1 w2 ⟨rfl, b1⟩; have H2 := Lib.hid (H1.out.step b1); clear b1))
        go_roundw
        case rel => exact ⟨j + 1, by omega, by go_num, H2⟩
        case measure => simp [intOf]; omega
      · have C1 := Lib.hid fun X => ap_of P P a b y true HAB.out.1 HAB.out.2 rfl (by rw [e2]; rfl) (by rw [e2]; rfl) X
        clear e1 e2 hP hQ
        go_wp2_with (first
          | (go_at_call 9; (with_reducible refine (C1.out _).mono ?_); rintro e1 w1 ⟨rfl, b1⟩; have H1 := Lib.hid ((H.out.step (bal (b0 wr) (.cells #[.int .u8 (P : Int), .int .u8 (Q : Int)] 59))).step b1); have bx := (boxS_new wr 59 #[.int .u8 (P : Int), .int .u8 (Q : Int)]).below b1; obtain ⟨d0, d1⟩ : w1.cell? ⟨wr.heap.size, 0, none⟩ = some (.int .u8 (P : Int)) ∧ w1.cell? ⟨wr.heap.size, 1, none⟩ = some (.int .u8 (Q : Int)) := ⟨(bx.cell 0).trans rfl, (bx.cell 1).trans rfl⟩; clear b1 bx)
          | (go_at_call 9; (with_reducible refine (C2.out _).mono ?_); rintro e1 w2 ⟨rfl, b1⟩; have H2 := Lib.hid (H1.out.step b1); clear b1))
        go_roundw
        case rel => exact ⟨j + 1, by omega, by go_num, H2⟩
        case measure => simp [intOf]; omega
    · obtain rfl : j = 4 := by omega
      clear H0
      have HQ := Lib.hid (quot_rem a b HAB.out.1 HAB.out.2)
      have D1 := Lib.hid fun X => ap_of 4 4 a b _ _ HAB.out.1 HAB.out.2 rfl rfl rfl X
      have D2 := Lib.hid fun X => ap_of 5 5 a b _ _ HAB.out.1 HAB.out.2 rfl rfl rfl X
      generalize (apO 4 a b).getD 0 = q1 at *
      generalize (apO 5 a b).getD 0 = r1 at *
      generalize (apO 4 a b).isSome = z1 at *
      generalize (apO 5 a b).isSome = z2 at *
      have HZ := Lib.hid HQ.out.1
      have HQ2 := Lib.hid HQ.out.2
      clear HQ
      go_upto_region 11 with (first
        | (go_at_call 9; (with_reducible refine (D1.out _).mono ?_); rintro e1 w1 ⟨rfl, b1⟩; have H1 := Lib.hid (H.out.step b1); clear b1)
        | (go_at_call 9; (with_reducible refine (D2.out _).mono ?_); rintro e1 w2 ⟨rfl, b1⟩; have H2 := Lib.hid (H1.out.step b1); clear b1))
      go_cut [102] from 79 to 102 (fun t wx => t = .bool false ∧ Hid (PrR w wx w.heap.size))
      case first =>
        cases hz : z1 with
        | true =>
          subst hz
          obtain ⟨m0, m1⟩ := HQ2.out rfl
          have hz := HZ.out
          rw [m0] at hz
          subst hz
          go_wp2
          go_meet
          case rel => exact ⟨rfl, H2⟩
        | false =>
          subst hz
          go_wp2
          go_meet
          case rel => exact ⟨by rw [HZ.out]; simp, H2⟩
      case rest =>
        obtain ⟨rfl, H3⟩ := hcut
        clear D1 D2 HQ2 H H2 H1
        go_upto_region 14 with fail
        have Gz := GoS.new H3
        have G0 := GoS.dr Gz
        generalize wc.heap.size = qb at *
        go_cut [153] from 103 to 153 (fun t wx => t = .bool false ∧ Hid (GoS w wx qb))
        case first =>
          rcases Int.lt_trichotomy a b with h | h | h
          · obtain ⟨c16, c14, c17, c18, c19, c15⟩ := cmp_lt h
            have K16 : Hid (∀ X, Calls Tryd.prog 21 #[.int .u8 16, .int .i32 a, .int .i32 b] X fun e w' => e = .returned (.int .i32 1) ∧ Below X.heap.size X w') := Lib.hid fun X => by
              have := got_any 16 16 a b HAB.out.1 HAB.out.2 rfl X
              rw [c16] at this
              exact this
            have K14 : Hid (∀ X, Calls Tryd.prog 21 #[.int .u8 14, .int .i32 a, .int .i32 b] X fun e w' => e = .returned (.int .i32 0) ∧ Below X.heap.size X w') := Lib.hid fun X => by
              have := got_any 14 14 a b HAB.out.1 HAB.out.2 rfl X
              rw [c14] at this
              exact this
            have K17 : Hid (∀ X, Calls Tryd.prog 21 #[.int .u8 17, .int .i32 a, .int .i32 b] X fun e w' => e = .returned (.int .i32 0) ∧ Below X.heap.size X w') := Lib.hid fun X => by
              have := got_any 17 17 a b HAB.out.1 HAB.out.2 rfl X
              rw [c17] at this
              exact this
            have K18 : Hid (∀ X, Calls Tryd.prog 21 #[.int .u8 18, .int .i32 a, .int .i32 b] X fun e w' => e = .returned (.int .i32 1) ∧ Below X.heap.size X w') := Lib.hid fun X => by
              have := got_any 18 18 a b HAB.out.1 HAB.out.2 rfl X
              rw [c18] at this
              exact this
            have K19 : Hid (∀ X, Calls Tryd.prog 21 #[.int .u8 19, .int .i32 a, .int .i32 b] X fun e w' => e = .returned (.int .i32 0) ∧ Below X.heap.size X w') := Lib.hid fun X => by
              have := got_any 19 19 a b HAB.out.1 HAB.out.2 rfl X
              rw [c19] at this
              exact this
            have K15 : Hid (∀ X, Calls Tryd.prog 21 #[.int .u8 15, .int .i32 a, .int .i32 b] X fun e w' => e = .returned (.int .i32 1) ∧ Below X.heap.size X w') := Lib.hid fun X => by
              have := got_any 15 15 a b HAB.out.1 HAB.out.2 rfl X
              rw [c15] at this
              exact this
            clear h c16 c14 c17 c18 c19 c15
            go_region_held3 (fun w' => w'.cell? ⟨qb, 0, none⟩ = some (.func (.func 21) #[] #[]))
              (first | (exact G0.out.c) | (exact G1.out.c) | (exact G2.out.c) | (exact G3.out.c) | (exact G4.out.c) | (exact G5.out.c) | (exact G6.out.c) | (exact G7.out.c) | (exact G8.out.c) | (exact G9.out.c) | (exact Gz.out.c) | go_keep)
              (first
              | (go_at_call 21; (with_reducible refine (K16.out _).mono ?_); rintro e1 v1 ⟨rfl, b1⟩; have G1 := Lib.hid (GoS.step G0 b1); clear b1)
              | (go_at_call 21; (with_reducible refine (K14.out _).mono ?_); rintro e1 v2 ⟨rfl, b1⟩; have G2 := Lib.hid (GoS.step G1 b1); clear b1)
              | (go_at_call 21; (with_reducible refine (K17.out _).mono ?_); rintro e1 v3 ⟨rfl, b1⟩; have G3 := Lib.hid (GoS.step G2 b1); clear b1)
              | (go_at_call 21; (with_reducible refine (K18.out _).mono ?_); rintro e1 v4 ⟨rfl, b1⟩; have G4 := Lib.hid (GoS.step G3 b1); clear b1)
              | (go_at_call 21; (with_reducible refine (K17.out _).mono ?_); rintro e1 v5 ⟨rfl, b1⟩; have G5 := Lib.hid (GoS.step G4 b1); clear b1)
              | (go_at_call 21; (with_reducible refine (K19.out _).mono ?_); rintro e1 v6 ⟨rfl, b1⟩; have G6 := Lib.hid (GoS.step G5 b1); clear b1)
              | (go_at_call 21; (with_reducible refine (K16.out _).mono ?_); rintro e1 v7 ⟨rfl, b1⟩; have G7 := Lib.hid (GoS.step G6 b1); clear b1)
              | (go_at_call 21; (with_reducible refine (K15.out _).mono ?_); rintro e1 v8 ⟨rfl, b1⟩; have G8 := Lib.hid (GoS.step G7 b1); clear b1)
              | (go_at_call 21; (with_reducible refine (K14.out _).mono ?_); rintro e1 v9 ⟨rfl, b1⟩; have G9 := Lib.hid (GoS.step G8 b1); clear b1))
            go_wp2
            go_meet
            case rel => exact ⟨rfl, G9⟩
          · obtain ⟨c16, c14, c17, c18, c19, c15⟩ := cmp_eq h
            have K16 : Hid (∀ X, Calls Tryd.prog 21 #[.int .u8 16, .int .i32 a, .int .i32 b] X fun e w' => e = .returned (.int .i32 0) ∧ Below X.heap.size X w') := Lib.hid fun X => by
              have := got_any 16 16 a b HAB.out.1 HAB.out.2 rfl X
              rw [c16] at this
              exact this
            have K14 : Hid (∀ X, Calls Tryd.prog 21 #[.int .u8 14, .int .i32 a, .int .i32 b] X fun e w' => e = .returned (.int .i32 1) ∧ Below X.heap.size X w') := Lib.hid fun X => by
              have := got_any 14 14 a b HAB.out.1 HAB.out.2 rfl X
              rw [c14] at this
              exact this
            have K17 : Hid (∀ X, Calls Tryd.prog 21 #[.int .u8 17, .int .i32 a, .int .i32 b] X fun e w' => e = .returned (.int .i32 0) ∧ Below X.heap.size X w') := Lib.hid fun X => by
              have := got_any 17 17 a b HAB.out.1 HAB.out.2 rfl X
              rw [c17] at this
              exact this
            have K18 : Hid (∀ X, Calls Tryd.prog 21 #[.int .u8 18, .int .i32 a, .int .i32 b] X fun e w' => e = .returned (.int .i32 1) ∧ Below X.heap.size X w') := Lib.hid fun X => by
              have := got_any 18 18 a b HAB.out.1 HAB.out.2 rfl X
              rw [c18] at this
              exact this
            have K19 : Hid (∀ X, Calls Tryd.prog 21 #[.int .u8 19, .int .i32 a, .int .i32 b] X fun e w' => e = .returned (.int .i32 1) ∧ Below X.heap.size X w') := Lib.hid fun X => by
              have := got_any 19 19 a b HAB.out.1 HAB.out.2 rfl X
              rw [c19] at this
              exact this
            have K15 : Hid (∀ X, Calls Tryd.prog 21 #[.int .u8 15, .int .i32 a, .int .i32 b] X fun e w' => e = .returned (.int .i32 0) ∧ Below X.heap.size X w') := Lib.hid fun X => by
              have := got_any 15 15 a b HAB.out.1 HAB.out.2 rfl X
              rw [c15] at this
              exact this
            clear h c16 c14 c17 c18 c19 c15
            go_region_held3 (fun w' => w'.cell? ⟨qb, 0, none⟩ = some (.func (.func 21) #[] #[]))
              (first | (exact G0.out.c) | (exact G1.out.c) | (exact G2.out.c) | (exact G3.out.c) | (exact G4.out.c) | (exact G5.out.c) | (exact G6.out.c) | (exact G7.out.c) | (exact G8.out.c) | (exact G9.out.c) | (exact Gz.out.c) | go_keep)
              (first
              | (go_at_call 21; (with_reducible refine (K16.out _).mono ?_); rintro e1 v1 ⟨rfl, b1⟩; have G1 := Lib.hid (GoS.step G0 b1); clear b1)
              | (go_at_call 21; (with_reducible refine (K14.out _).mono ?_); rintro e1 v2 ⟨rfl, b1⟩; have G2 := Lib.hid (GoS.step G1 b1); clear b1)
              | (go_at_call 21; (with_reducible refine (K17.out _).mono ?_); rintro e1 v3 ⟨rfl, b1⟩; have G3 := Lib.hid (GoS.step G2 b1); clear b1)
              | (go_at_call 21; (with_reducible refine (K18.out _).mono ?_); rintro e1 v4 ⟨rfl, b1⟩; have G4 := Lib.hid (GoS.step G3 b1); clear b1)
              | (go_at_call 21; (with_reducible refine (K17.out _).mono ?_); rintro e1 v5 ⟨rfl, b1⟩; have G5 := Lib.hid (GoS.step G4 b1); clear b1)
              | (go_at_call 21; (with_reducible refine (K19.out _).mono ?_); rintro e1 v6 ⟨rfl, b1⟩; have G6 := Lib.hid (GoS.step G5 b1); clear b1)
              | (go_at_call 21; (with_reducible refine (K16.out _).mono ?_); rintro e1 v7 ⟨rfl, b1⟩; have G7 := Lib.hid (GoS.step G6 b1); clear b1)
              | (go_at_call 21; (with_reducible refine (K15.out _).mono ?_); rintro e1 v8 ⟨rfl, b1⟩; have G8 := Lib.hid (GoS.step G7 b1); clear b1)
              | (go_at_call 21; (with_reducible refine (K14.out _).mono ?_); rintro e1 v9 ⟨rfl, b1⟩; have G9 := Lib.hid (GoS.step G8 b1); clear b1))
            go_wp2
            go_meet
            case rel => exact ⟨rfl, G9⟩
          · obtain ⟨c16, c14, c17, c18, c19, c15⟩ := cmp_gt h
            have K16 : Hid (∀ X, Calls Tryd.prog 21 #[.int .u8 16, .int .i32 a, .int .i32 b] X fun e w' => e = .returned (.int .i32 0) ∧ Below X.heap.size X w') := Lib.hid fun X => by
              have := got_any 16 16 a b HAB.out.1 HAB.out.2 rfl X
              rw [c16] at this
              exact this
            have K14 : Hid (∀ X, Calls Tryd.prog 21 #[.int .u8 14, .int .i32 a, .int .i32 b] X fun e w' => e = .returned (.int .i32 0) ∧ Below X.heap.size X w') := Lib.hid fun X => by
              have := got_any 14 14 a b HAB.out.1 HAB.out.2 rfl X
              rw [c14] at this
              exact this
            have K17 : Hid (∀ X, Calls Tryd.prog 21 #[.int .u8 17, .int .i32 a, .int .i32 b] X fun e w' => e = .returned (.int .i32 1) ∧ Below X.heap.size X w') := Lib.hid fun X => by
              have := got_any 17 17 a b HAB.out.1 HAB.out.2 rfl X
              rw [c17] at this
              exact this
            have K18 : Hid (∀ X, Calls Tryd.prog 21 #[.int .u8 18, .int .i32 a, .int .i32 b] X fun e w' => e = .returned (.int .i32 0) ∧ Below X.heap.size X w') := Lib.hid fun X => by
              have := got_any 18 18 a b HAB.out.1 HAB.out.2 rfl X
              rw [c18] at this
              exact this
            have K19 : Hid (∀ X, Calls Tryd.prog 21 #[.int .u8 19, .int .i32 a, .int .i32 b] X fun e w' => e = .returned (.int .i32 1) ∧ Below X.heap.size X w') := Lib.hid fun X => by
              have := got_any 19 19 a b HAB.out.1 HAB.out.2 rfl X
              rw [c19] at this
              exact this
            have K15 : Hid (∀ X, Calls Tryd.prog 21 #[.int .u8 15, .int .i32 a, .int .i32 b] X fun e w' => e = .returned (.int .i32 1) ∧ Below X.heap.size X w') := Lib.hid fun X => by
              have := got_any 15 15 a b HAB.out.1 HAB.out.2 rfl X
              rw [c15] at this
              exact this
            clear h c16 c14 c17 c18 c19 c15
            go_region_held3 (fun w' => w'.cell? ⟨qb, 0, none⟩ = some (.func (.func 21) #[] #[]))
              (first | (exact G0.out.c) | (exact G1.out.c) | (exact G2.out.c) | (exact G3.out.c) | (exact G4.out.c) | (exact G5.out.c) | (exact G6.out.c) | (exact G7.out.c) | (exact G8.out.c) | (exact G9.out.c) | (exact Gz.out.c) | go_keep)
              (first
              | (go_at_call 21; (with_reducible refine (K16.out _).mono ?_); rintro e1 v1 ⟨rfl, b1⟩; have G1 := Lib.hid (GoS.step G0 b1); clear b1)
              | (go_at_call 21; (with_reducible refine (K14.out _).mono ?_); rintro e1 v2 ⟨rfl, b1⟩; have G2 := Lib.hid (GoS.step G1 b1); clear b1)
              | (go_at_call 21; (with_reducible refine (K17.out _).mono ?_); rintro e1 v3 ⟨rfl, b1⟩; have G3 := Lib.hid (GoS.step G2 b1); clear b1)
              | (go_at_call 21; (with_reducible refine (K18.out _).mono ?_); rintro e1 v4 ⟨rfl, b1⟩; have G4 := Lib.hid (GoS.step G3 b1); clear b1)
              | (go_at_call 21; (with_reducible refine (K17.out _).mono ?_); rintro e1 v5 ⟨rfl, b1⟩; have G5 := Lib.hid (GoS.step G4 b1); clear b1)
              | (go_at_call 21; (with_reducible refine (K19.out _).mono ?_); rintro e1 v6 ⟨rfl, b1⟩; have G6 := Lib.hid (GoS.step G5 b1); clear b1)
              | (go_at_call 21; (with_reducible refine (K16.out _).mono ?_); rintro e1 v7 ⟨rfl, b1⟩; have G7 := Lib.hid (GoS.step G6 b1); clear b1)
              | (go_at_call 21; (with_reducible refine (K15.out _).mono ?_); rintro e1 v8 ⟨rfl, b1⟩; have G8 := Lib.hid (GoS.step G7 b1); clear b1)
              | (go_at_call 21; (with_reducible refine (K14.out _).mono ?_); rintro e1 v9 ⟨rfl, b1⟩; have G9 := Lib.hid (GoS.step G8 b1); clear b1))
            go_wp2
            go_meet
            case rel => exact ⟨rfl, G9⟩
        case rest =>
          obtain ⟨rfl, M0⟩ := hcut
          clear Gz G0 H3
          go_upto_region 17 with fail
          have N0 := GoS.dr M0
          go_cut [188] from 155 to 188 (fun t wx => t = .bool false ∧ Hid (GoS w wx qb))
          case first =>
            have ia := HAB.out.1
            have ib := HAB.out.2
            have P1 : Hid (∀ X, Calls Tryd.prog 21 #[.int .u8 9, .int .i32 a, .int .i32 b] X fun e w' => e = .returned (.int .i32 (bits .and .i32 a b)) ∧ Below X.heap.size X w') := Lib.hid fun X => got_any 9 9 a b ia ib rfl X
            have P2 := Lib.hid fun X hq => not_any (bits .and .i32 a b) (bits_in .and a b) qb X hq
            have P3 := Lib.hid fun X hq => not_any a ia qb X hq
            have P4 := Lib.hid fun X hq => not_any b ib qb X hq
            have P5 : Hid (∀ X, Calls Tryd.prog 21 #[.int .u8 10, .int .i32 (bits .xor .i32 (-1) a), .int .i32 (bits .xor .i32 (-1) b)] X fun e w' => e = .returned (.int .i32 (bits .xor .i32 (-1) (bits .and .i32 a b))) ∧ Below X.heap.size X w') := Lib.hid fun X => by
              rw [morgan_not a b]
              exact got_any 10 10 _ _ (bits_in .xor (-1) a) (bits_in .xor (-1) b) rfl X
            have P6 : Hid (∀ X, Calls Tryd.prog 21 #[.int .u8 11, .int .i32 a, .int .i32 b] X fun e w' => e = .returned (.int .i32 (bits .xor .i32 a b)) ∧ Below X.heap.size X w') := Lib.hid fun X => got_any 11 11 a b ia ib rfl X
            have P7 : Hid (∀ X, Calls Tryd.prog 21 #[.int .u8 10, .int .i32 a, .int .i32 b] X fun e w' => e = .returned (.int .i32 (bits .or .i32 a b)) ∧ Below X.heap.size X w') := Lib.hid fun X => got_any 10 10 a b ia ib rfl X
            have P10 : Hid (∀ X, Calls Tryd.prog 21 #[.int .u8 9, .int .i32 (bits .or .i32 a b), .int .i32 (bits .xor .i32 (-1) (bits .and .i32 a b))] X fun e w' => e = .returned (.int .i32 (bits .xor .i32 a b)) ∧ Below X.heap.size X w') := Lib.hid fun X => by
              rw [morgan_xor a b]
              exact got_any 9 9 _ _ (bits_in .or a b) (bits_in .xor (-1) _) rfl X
            generalize bits .xor .i32 (-1) (bits .and .i32 a b) = u1 at *
            generalize bits .and .i32 a b = x1 at *
            generalize bits .or .i32 a b = x2 at *
            generalize bits .xor .i32 a b = u2 at *
            generalize bits .xor .i32 (-1) a = na at *
            generalize bits .xor .i32 (-1) b = nb at *
            clear ia ib
            go_region_held3 (fun w' => w'.cell? ⟨qb, 0, none⟩ = some (.func (.func 21) #[] #[]))
              (first | (exact N0.out.c) | (exact N1.out.c) | (exact N2.out.c) | (exact N3.out.c) | (exact N4.out.c) | (exact N5.out.c) | (exact N6.out.c) | (exact N7.out.c) | (exact N8.out.c) | (exact N9.out.c) | (exact N10.out.c) | (exact M0.out.c) | go_keep)
              (first
              | (go_at_call 21; (with_reducible refine (P1.out _).mono ?_); rintro e1 v1 ⟨rfl, b1⟩; have N1 := Lib.hid (GoS.step N0 b1); clear b1)
              | (go_at_call 22; (with_reducible refine (P2.out _ N1.out.c).mono ?_); rintro e1 v2 ⟨rfl, b1⟩; have N2 := Lib.hid (GoS.step N1 b1); clear b1)
              | (go_at_call 22; (with_reducible refine (P3.out _ N2.out.c).mono ?_); rintro e1 v3 ⟨rfl, b1⟩; have N3 := Lib.hid (GoS.step N2 b1); clear b1)
              | (go_at_call 22; (with_reducible refine (P4.out _ N3.out.c).mono ?_); rintro e1 v4 ⟨rfl, b1⟩; have N4 := Lib.hid (GoS.step N3 b1); clear b1)
              | (go_at_call 21; (with_reducible refine (P5.out _).mono ?_); rintro e1 v5 ⟨rfl, b1⟩; have N5 := Lib.hid (GoS.step N4 b1); clear b1)
              | (go_at_call 21; (with_reducible refine (P6.out _).mono ?_); rintro e1 v6 ⟨rfl, b1⟩; have N6 := Lib.hid (GoS.step N5 b1); clear b1)
              | (go_at_call 21; (with_reducible refine (P7.out _).mono ?_); rintro e1 v7 ⟨rfl, b1⟩; have N7 := Lib.hid (GoS.step N6 b1); clear b1)
              | (go_at_call 21; (with_reducible refine (P1.out _).mono ?_); rintro e1 v8 ⟨rfl, b1⟩; have N8 := Lib.hid (GoS.step N7 b1); clear b1)
              | (go_at_call 22; (with_reducible refine (P2.out _ N8.out.c).mono ?_); rintro e1 v9 ⟨rfl, b1⟩; have N9 := Lib.hid (GoS.step N8 b1); clear b1)
              | (go_at_call 21; (with_reducible refine (P10.out _).mono ?_); rintro e1 v10 ⟨rfl, b1⟩; have N10 := Lib.hid (GoS.step N9 b1); clear b1))
            go_wp2
            go_meet
            case rel => exact ⟨rfl, N10⟩
          case rest =>
            obtain ⟨rfl, M1⟩ := hcut
            clear N0 M0
            rcases truth_cases a b with ⟨rfl, rfl⟩ | ⟨rfl, rfl⟩ | ⟨rfl, rfl⟩ | ⟨rfl, rfl⟩ | h | h
            · have Q1 := Lib.hid fun X => ap_of 20 20 0 0 0 true HAB.out.1 HAB.out.2 rfl (by decide) (by decide) X
              have Q2 := Lib.hid fun X => ap_of 21 21 0 0 0 true HAB.out.1 HAB.out.2 rfl (by decide) (by decide) X
              have Q3 : Hid (∀ X, Calls Tryd.prog 21 #[.int .u8 14, .int .i32 0, .int .i32 2] X fun e w' => e = .returned (.int .i32 0) ∧ Below X.heap.size X w') := Lib.hid fun X => got_any 14 14 0 2 ⟨by decide, by decide⟩ ⟨by decide, by decide⟩ rfl X
              have Q4 : Hid (∀ X, Calls Tryd.prog 21 #[.int .u8 14, .int .i32 (IntKind.i32.wrap (0 + 0)), .int .i32 2] X fun e w' => e = .returned (.int .i32 0) ∧ Below X.heap.size X w') := Lib.hid fun X => got_any 14 14 0 2 ⟨by decide, by decide⟩ ⟨by decide, by decide⟩ rfl X
              go_wp2_with (first
                | (go_at_call 9; (with_reducible refine (Q1.out _).mono ?_); rintro e1 v1 ⟨rfl, b1⟩; have Nx := Lib.hid (GoS.step M1 b1); clear b1)
                | (go_at_call 9; (with_reducible refine (Q2.out _).mono ?_); rintro e1 v2 ⟨rfl, b1⟩; have Ny := Lib.hid (GoS.step Nx b1); have cy := Ny.out.c; clear b1)
                | (go_at_call 21; (with_reducible refine (Q3.out _).mono ?_); rintro e1 v3 ⟨rfl, b1⟩; have N1 := Lib.hid (GoS.step Ny b1); clear b1)
                | (go_at_call 21; (with_reducible refine (Q4.out _).mono ?_); rintro e1 v3 ⟨rfl, b1⟩; have N1 := Lib.hid (GoS.step Ny b1); clear b1)
                | (go_at_call 11; (with_reducible refine (awake_any _ N1.out.t).mono ?_); rintro e1 v4 ⟨rfl, b1⟩; have N2 := Lib.hid (GoS.step N1 b1); clear b1))
              go_ret
              exact ⟨rfl, N2.out.b⟩
            · have Q1 := Lib.hid fun X => ap_of 20 20 0 1 0 true HAB.out.1 HAB.out.2 rfl (by decide) (by decide) X
              have Q2 := Lib.hid fun X => ap_of 21 21 0 1 1 true HAB.out.1 HAB.out.2 rfl (by decide) (by decide) X
              have Q3 : Hid (∀ X, Calls Tryd.prog 21 #[.int .u8 14, .int .i32 1, .int .i32 2] X fun e w' => e = .returned (.int .i32 0) ∧ Below X.heap.size X w') := Lib.hid fun X => got_any 14 14 1 2 ⟨by decide, by decide⟩ ⟨by decide, by decide⟩ rfl X
              have Q4 : Hid (∀ X, Calls Tryd.prog 21 #[.int .u8 14, .int .i32 (IntKind.i32.wrap (0 + 1)), .int .i32 2] X fun e w' => e = .returned (.int .i32 0) ∧ Below X.heap.size X w') := Lib.hid fun X => got_any 14 14 1 2 ⟨by decide, by decide⟩ ⟨by decide, by decide⟩ rfl X
              go_wp2_with (first
                | (go_at_call 9; (with_reducible refine (Q1.out _).mono ?_); rintro e1 v1 ⟨rfl, b1⟩; have Nx := Lib.hid (GoS.step M1 b1); clear b1)
                | (go_at_call 9; (with_reducible refine (Q2.out _).mono ?_); rintro e1 v2 ⟨rfl, b1⟩; have Ny := Lib.hid (GoS.step Nx b1); have cy := Ny.out.c; clear b1)
                | (go_at_call 21; (with_reducible refine (Q3.out _).mono ?_); rintro e1 v3 ⟨rfl, b1⟩; have N1 := Lib.hid (GoS.step Ny b1); clear b1)
                | (go_at_call 21; (with_reducible refine (Q4.out _).mono ?_); rintro e1 v3 ⟨rfl, b1⟩; have N1 := Lib.hid (GoS.step Ny b1); clear b1)
                | (go_at_call 11; (with_reducible refine (awake_any _ N1.out.t).mono ?_); rintro e1 v4 ⟨rfl, b1⟩; have N2 := Lib.hid (GoS.step N1 b1); clear b1))
              go_ret
              exact ⟨rfl, N2.out.b⟩
            · have Q1 := Lib.hid fun X => ap_of 20 20 1 0 0 true HAB.out.1 HAB.out.2 rfl (by decide) (by decide) X
              have Q2 := Lib.hid fun X => ap_of 21 21 1 0 1 true HAB.out.1 HAB.out.2 rfl (by decide) (by decide) X
              have Q3 : Hid (∀ X, Calls Tryd.prog 21 #[.int .u8 14, .int .i32 1, .int .i32 2] X fun e w' => e = .returned (.int .i32 0) ∧ Below X.heap.size X w') := Lib.hid fun X => got_any 14 14 1 2 ⟨by decide, by decide⟩ ⟨by decide, by decide⟩ rfl X
              have Q4 : Hid (∀ X, Calls Tryd.prog 21 #[.int .u8 14, .int .i32 (IntKind.i32.wrap (1 + 0)), .int .i32 2] X fun e w' => e = .returned (.int .i32 0) ∧ Below X.heap.size X w') := Lib.hid fun X => got_any 14 14 1 2 ⟨by decide, by decide⟩ ⟨by decide, by decide⟩ rfl X
              go_wp2_with (first
                | (go_at_call 9; (with_reducible refine (Q1.out _).mono ?_); rintro e1 v1 ⟨rfl, b1⟩; have Nx := Lib.hid (GoS.step M1 b1); clear b1)
                | (go_at_call 9; (with_reducible refine (Q2.out _).mono ?_); rintro e1 v2 ⟨rfl, b1⟩; have Ny := Lib.hid (GoS.step Nx b1); have cy := Ny.out.c; clear b1)
                | (go_at_call 21; (with_reducible refine (Q3.out _).mono ?_); rintro e1 v3 ⟨rfl, b1⟩; have N1 := Lib.hid (GoS.step Ny b1); clear b1)
                | (go_at_call 21; (with_reducible refine (Q4.out _).mono ?_); rintro e1 v3 ⟨rfl, b1⟩; have N1 := Lib.hid (GoS.step Ny b1); clear b1)
                | (go_at_call 11; (with_reducible refine (awake_any _ N1.out.t).mono ?_); rintro e1 v4 ⟨rfl, b1⟩; have N2 := Lib.hid (GoS.step N1 b1); clear b1))
              go_ret
              exact ⟨rfl, N2.out.b⟩
            · have Q1 := Lib.hid fun X => ap_of 20 20 1 1 1 true HAB.out.1 HAB.out.2 rfl (by decide) (by decide) X
              have Q2 := Lib.hid fun X => ap_of 21 21 1 1 1 true HAB.out.1 HAB.out.2 rfl (by decide) (by decide) X
              have Q3 : Hid (∀ X, Calls Tryd.prog 21 #[.int .u8 14, .int .i32 2, .int .i32 2] X fun e w' => e = .returned (.int .i32 1) ∧ Below X.heap.size X w') := Lib.hid fun X => got_any 14 14 2 2 ⟨by decide, by decide⟩ ⟨by decide, by decide⟩ rfl X
              have Q4 : Hid (∀ X, Calls Tryd.prog 21 #[.int .u8 14, .int .i32 (IntKind.i32.wrap (1 + 1)), .int .i32 2] X fun e w' => e = .returned (.int .i32 1) ∧ Below X.heap.size X w') := Lib.hid fun X => got_any 14 14 2 2 ⟨by decide, by decide⟩ ⟨by decide, by decide⟩ rfl X
              go_wp2_with (first
                | (go_at_call 9; (with_reducible refine (Q1.out _).mono ?_); rintro e1 v1 ⟨rfl, b1⟩; have Nx := Lib.hid (GoS.step M1 b1); clear b1)
                | (go_at_call 9; (with_reducible refine (Q2.out _).mono ?_); rintro e1 v2 ⟨rfl, b1⟩; have Ny := Lib.hid (GoS.step Nx b1); have cy := Ny.out.c; clear b1)
                | (go_at_call 21; (with_reducible refine (Q3.out _).mono ?_); rintro e1 v3 ⟨rfl, b1⟩; have N1 := Lib.hid (GoS.step Ny b1); clear b1)
                | (go_at_call 21; (with_reducible refine (Q4.out _).mono ?_); rintro e1 v3 ⟨rfl, b1⟩; have N1 := Lib.hid (GoS.step Ny b1); clear b1)
                | (go_at_call 11; (with_reducible refine (awake_any _ N1.out.t).mono ?_); rintro e1 v4 ⟨rfl, b1⟩; have N2 := Lib.hid (GoS.step N1 b1); clear b1))
              go_ret
              exact ⟨rfl, N2.out.b⟩
            · obtain ⟨ha2, h1, h2⟩ := h
              have k1 : (b == 0) = false := beq_eq_false_iff_ne.2 h1
              have k2 : (b == 1) = false := beq_eq_false_iff_ne.2 h2
              rcases ha2 with rfl | rfl
              · have hn := truth_none (a := 0) (b := b) (.inl ⟨h1, h2⟩)
                have Q1 := Lib.hid fun X => ap_of 20 20 0 b 0 false HAB.out.1 HAB.out.2 rfl (by rw [hn.1]; rfl) (by rw [hn.1]; rfl) X
                have Q2 := Lib.hid fun X => ap_of 21 21 0 b 0 false HAB.out.1 HAB.out.2 rfl (by rw [hn.2]; rfl) (by rw [hn.2]; rfl) X
                have hwi : inW (wrap32 b) := by unfold inW wrap32; omega
                have Q3 := Lib.hid fun X => got_any 14 14 (wrap32 b) 2 hwi ⟨by decide, by decide⟩ rfl X
                have Q4 := Q3
                clear hn hwi
                rcases eq_bit (wrap32 b) 2 with he | he
                · rw [he] at Q3 Q4
                  clear he
                  go_wp2_with (first
                    | (go_at_call 9; (with_reducible refine (Q1.out _).mono ?_); rintro e1 v1 ⟨rfl, b1⟩; have Nx := Lib.hid (GoS.step M1 b1); clear b1)
                    | (go_at_call 9; (with_reducible refine (Q2.out _).mono ?_); rintro e1 v2 ⟨rfl, b1⟩; have Ny := Lib.hid (GoS.step Nx b1); have cy := Ny.out.c; clear b1)
                    | (go_at_call 21; (with_reducible refine (Q3.out _).mono ?_); rintro e1 v3 ⟨rfl, b1⟩; have N1 := Lib.hid (GoS.step Ny b1); clear b1)
                    | (go_at_call 21; (with_reducible refine (Q4.out _).mono ?_); rintro e1 v3 ⟨rfl, b1⟩; have N1 := Lib.hid (GoS.step Ny b1); clear b1)
                    | (go_at_call 11; (with_reducible refine (awake_any _ N1.out.t).mono ?_); rintro e1 v4 ⟨rfl, b1⟩; have N2 := Lib.hid (GoS.step N1 b1); clear b1))
                  go_ret
                  exact ⟨rfl, N2.out.b⟩
                · rw [he] at Q3 Q4
                  clear he
                  go_wp2_with (first
                    | (go_at_call 9; (with_reducible refine (Q1.out _).mono ?_); rintro e1 v1 ⟨rfl, b1⟩; have Nx := Lib.hid (GoS.step M1 b1); clear b1)
                    | (go_at_call 9; (with_reducible refine (Q2.out _).mono ?_); rintro e1 v2 ⟨rfl, b1⟩; have Ny := Lib.hid (GoS.step Nx b1); have cy := Ny.out.c; clear b1)
                    | (go_at_call 21; (with_reducible refine (Q3.out _).mono ?_); rintro e1 v3 ⟨rfl, b1⟩; have N1 := Lib.hid (GoS.step Ny b1); clear b1)
                    | (go_at_call 21; (with_reducible refine (Q4.out _).mono ?_); rintro e1 v3 ⟨rfl, b1⟩; have N1 := Lib.hid (GoS.step Ny b1); clear b1)
                    | (go_at_call 11; (with_reducible refine (awake_any _ N1.out.t).mono ?_); rintro e1 v4 ⟨rfl, b1⟩; have N2 := Lib.hid (GoS.step N1 b1); clear b1))
                  go_ret
                  exact ⟨rfl, N2.out.b⟩
              · have hn := truth_none (a := 1) (b := b) (.inl ⟨h1, h2⟩)
                have Q1 := Lib.hid fun X => ap_of 20 20 1 b 0 false HAB.out.1 HAB.out.2 rfl (by rw [hn.1]; rfl) (by rw [hn.1]; rfl) X
                have Q2 := Lib.hid fun X => ap_of 21 21 1 b 0 false HAB.out.1 HAB.out.2 rfl (by rw [hn.2]; rfl) (by rw [hn.2]; rfl) X
                have hwi : inW (wrap32 (1 + b)) := by unfold inW wrap32; omega
                have Q3 := Lib.hid fun X => got_any 14 14 (wrap32 (1 + b)) 2 hwi ⟨by decide, by decide⟩ rfl X
                have Q4 := Q3
                clear hn hwi
                rcases eq_bit (wrap32 (1 + b)) 2 with he | he
                · rw [he] at Q3 Q4
                  clear he
                  go_wp2_with (first
                    | (go_at_call 9; (with_reducible refine (Q1.out _).mono ?_); rintro e1 v1 ⟨rfl, b1⟩; have Nx := Lib.hid (GoS.step M1 b1); clear b1)
                    | (go_at_call 9; (with_reducible refine (Q2.out _).mono ?_); rintro e1 v2 ⟨rfl, b1⟩; have Ny := Lib.hid (GoS.step Nx b1); have cy := Ny.out.c; clear b1)
                    | (go_at_call 21; (with_reducible refine (Q3.out _).mono ?_); rintro e1 v3 ⟨rfl, b1⟩; have N1 := Lib.hid (GoS.step Ny b1); clear b1)
                    | (go_at_call 21; (with_reducible refine (Q4.out _).mono ?_); rintro e1 v3 ⟨rfl, b1⟩; have N1 := Lib.hid (GoS.step Ny b1); clear b1)
                    | (go_at_call 11; (with_reducible refine (awake_any _ N1.out.t).mono ?_); rintro e1 v4 ⟨rfl, b1⟩; have N2 := Lib.hid (GoS.step N1 b1); clear b1))
                  go_ret
                  exact ⟨rfl, N2.out.b⟩
                · rw [he] at Q3 Q4
                  clear he
                  go_wp2_with (first
                    | (go_at_call 9; (with_reducible refine (Q1.out _).mono ?_); rintro e1 v1 ⟨rfl, b1⟩; have Nx := Lib.hid (GoS.step M1 b1); clear b1)
                    | (go_at_call 9; (with_reducible refine (Q2.out _).mono ?_); rintro e1 v2 ⟨rfl, b1⟩; have Ny := Lib.hid (GoS.step Nx b1); have cy := Ny.out.c; clear b1)
                    | (go_at_call 21; (with_reducible refine (Q3.out _).mono ?_); rintro e1 v3 ⟨rfl, b1⟩; have N1 := Lib.hid (GoS.step Ny b1); clear b1)
                    | (go_at_call 21; (with_reducible refine (Q4.out _).mono ?_); rintro e1 v3 ⟨rfl, b1⟩; have N1 := Lib.hid (GoS.step Ny b1); clear b1)
                    | (go_at_call 11; (with_reducible refine (awake_any _ N1.out.t).mono ?_); rintro e1 v4 ⟨rfl, b1⟩; have N2 := Lib.hid (GoS.step N1 b1); clear b1))
                  go_ret
                  exact ⟨rfl, N2.out.b⟩
            · have k1 : (a == 0) = false := beq_eq_false_iff_ne.2 h.1
              have k2 : (a == 1) = false := beq_eq_false_iff_ne.2 h.2
              have hn := truth_none (a := a) (b := b) (.inr h)
              have Q1 := Lib.hid fun X => ap_of 20 20 a b 0 false HAB.out.1 HAB.out.2 rfl (by rw [hn.1]; rfl) (by rw [hn.1]; rfl) X
              have Q2 := Lib.hid fun X => ap_of 21 21 a b 0 false HAB.out.1 HAB.out.2 rfl (by rw [hn.2]; rfl) (by rw [hn.2]; rfl) X
              have hwi : inW (wrap32 (a + b)) := by unfold inW wrap32; omega
              have Q3 := Lib.hid fun X => got_any 14 14 (wrap32 (a + b)) 2 hwi ⟨by decide, by decide⟩ rfl X
              have Q4 := Q3
              clear hn hwi
              rcases eq_bit (wrap32 (a + b)) 2 with he | he
              · rw [he] at Q3 Q4
                clear he
                go_wp2_with (first
                  | (go_at_call 9; (with_reducible refine (Q1.out _).mono ?_); rintro e1 v1 ⟨rfl, b1⟩; have Nx := Lib.hid (GoS.step M1 b1); clear b1)
                  | (go_at_call 9; (with_reducible refine (Q2.out _).mono ?_); rintro e1 v2 ⟨rfl, b1⟩; have Ny := Lib.hid (GoS.step Nx b1); have cy := Ny.out.c; clear b1)
                  | (go_at_call 21; (with_reducible refine (Q3.out _).mono ?_); rintro e1 v3 ⟨rfl, b1⟩; have N1 := Lib.hid (GoS.step Ny b1); clear b1)
                  | (go_at_call 21; (with_reducible refine (Q4.out _).mono ?_); rintro e1 v3 ⟨rfl, b1⟩; have N1 := Lib.hid (GoS.step Ny b1); clear b1)
                  | (go_at_call 11; (with_reducible refine (awake_any _ N1.out.t).mono ?_); rintro e1 v4 ⟨rfl, b1⟩; have N2 := Lib.hid (GoS.step N1 b1); clear b1))
                go_ret
                exact ⟨rfl, N2.out.b⟩
              · rw [he] at Q3 Q4
                clear he
                go_wp2_with (first
                  | (go_at_call 9; (with_reducible refine (Q1.out _).mono ?_); rintro e1 v1 ⟨rfl, b1⟩; have Nx := Lib.hid (GoS.step M1 b1); clear b1)
                  | (go_at_call 9; (with_reducible refine (Q2.out _).mono ?_); rintro e1 v2 ⟨rfl, b1⟩; have Ny := Lib.hid (GoS.step Nx b1); have cy := Ny.out.c; clear b1)
                  | (go_at_call 21; (with_reducible refine (Q3.out _).mono ?_); rintro e1 v3 ⟨rfl, b1⟩; have N1 := Lib.hid (GoS.step Ny b1); clear b1)
                  | (go_at_call 21; (with_reducible refine (Q4.out _).mono ?_); rintro e1 v3 ⟨rfl, b1⟩; have N1 := Lib.hid (GoS.step Ny b1); clear b1)
                  | (go_at_call 11; (with_reducible refine (awake_any _ N1.out.t).mono ?_); rintro e1 v4 ⟨rfl, b1⟩; have N2 := Lib.hid (GoS.step N1 b1); clear b1))
                go_ret
                exact ⟨rfl, N2.out.b⟩
end Go.Proofs.YtimbiobonigdmaaDoor
