/- The reference: primitive kinds, types that exist, items, values, sizes, words. -/
import Derived.Test.YtbkbhlbfkfnljaaDoorRlb
import Derived.Test.YtbkbhlbfkfnljaaDoorVar
import Derived.Laws.StructEq
set_option linter.unusedVariables false
set_option linter.unusedSimpArgs false
namespace Go.Proofs.YtbkbhlbfkfnljaaDoor
open Go Go.RowKit L8 L9

theorem nat_eq (a b : Nat) : ((a : Int) == (b : Int)) = decide (a = b) := by by_cases h : a = b <;> simp [h]; omega
theorem eq_nil9 (l : Bs) : ((strOf l).toList == []) = decide (l = []) := by
  rw [toList_strOf]; cases l <;> rfl
theorem RPrim_any (k : Nat) (w : World) : Calls Tryd.prog 32 #[.int .u8 (k : Int)] w fun e w' => e = .returned (.bool (prim k)) ∧ w = w' := by
  have q1 : ((k : Int) == 1) = decide (k = 1) := nat_eq k 1
  have q2 : ((k : Int) == 2) = decide (k = 2) := nat_eq k 2
  have q3 : ((k : Int) == 3) = decide (k = 3) := nat_eq k 3
  unfold prim
  generalize decide (k = 1) = b1 at *
  generalize decide (k = 2) = b2 at *
  generalize decide (k = 3) = b3 at *
  cases b1 <;> cases b2 <;> cases b3
  all_goals
    go_enter Tryd.func32, Tryd.ntmps32
    go_wp2
    go_ret
    exact ⟨rfl, rfl⟩
set_option maxRecDepth 100000 in
theorem RItems_any {A : Option Addr} {c n least : Nat} {ks : List Nat} {w : World} (R : KR w A c ks) (hn : ks.length = n) (hl : least ≤ 1) : Calls Tryd.prog 36 #[.slice A n c, .int .i64 (least : Int)] w fun e w' => e = .returned (.bool (itemsB ks least)) ∧ w = w' := by
  have HR := Lib.hid R
  have HN := Lib.hid hn
  have hmx : n ≤ maxLen := by have := R.le; have := R.mx; omega
  unfold maxLen at hmx
  have CP := Lib.hid (fun (k : Nat) (W : World) => RPrim_any k W)
  have l0 : (0 : Int) ≤ (least : Int) := by omega
  have l1 : (least : Int) ≤ 1 := by omega
  have hall := Lib.hid (all_prim (l := ks))
  unfold itemsB
  rw [hn, dle least n, dle n 8]
  clear R hn
  go_enter Tryd.func36, Tryd.ntmps36
  go_wp2
  go_loopw [5] (fun i wr => ∃ j : Nat, j ≤ n ∧ i = .int .i64 j ∧ wr = w ∧ Hid (∀ i, i < j → prim (ks.getD i 0) = true)) (fun i _ => n - (intOf i).toNat)
  case atStart => exact ⟨0, Nat.zero_le _, rfl, rfl, Lib.hid fun i hi => absurd hi (by omega)⟩
  case round =>
    obtain ⟨j, hj, rfl, rfl, H⟩ := hrel
    have hj0 : (0 : Int) ≤ (j : Int) := by omega
    by_cases hlt : (j : Int) < (n : Int)
    · obtain ⟨ad, rfl, c0⟩ := HR.out.rd j (by have := HN.out; omega)
      have C := Lib.hid (CP.out (ks.getD j 0))
      cases hp : prim (ks.getD j 0) with
      | false =>
        have HE := Lib.hid (show ks.all prim = false from by
          cases hb : ks.all prim with
          | false => rfl
          | true => rw [hall.out.1 hb j (by have := HN.out; omega)] at hp; cases hp)
        rw [hp] at C
        clear hp
        generalize ks.getD j 0 = x at *
        go_wp2_with (go_at_call 32; (with_reducible refine (C.out _).mono ?_); rintro e w2 ⟨rfl, rfl⟩)
        go_ret
        rw [HE.out]
        first | exact ⟨rfl, rfl⟩ | exact ⟨rfl, trivial⟩
      | true =>
        have HY := Lib.hid (show ∀ i, i < j + 1 → prim (ks.getD i 0) = true from fun i hi => if h2 : i < j then H.out i h2 else by rw [show i = j by omega]; exact hp)
        rw [hp] at C
        clear hp H
        generalize ks.getD j 0 = x at *
        go_wp2_with (go_at_call 32; (with_reducible refine (C.out _).mono ?_); rintro e w2 ⟨rfl, rfl⟩)
        go_roundw
        case rel => exact ⟨j + 1, by omega, by go_num, by first | rfl | trivial, HY⟩
        case measure => simp [intOf]; omega
    · obtain rfl : j = n := by omega
      have HE := Lib.hid (show ks.all prim = true from hall.out.2 (by rw [HN.out]; exact H.out))
      clear H
      by_cases g1 : (least : Int) ≤ (j : Int) <;> by_cases g2 : (j : Int) ≤ 8
      all_goals
        go_wp2
        go_ret
        rw [HE.out]
        first | (simp [g1, g2]; done) | (simp [g1, g2]; omega)
/-! ### Types -/
set_option maxRecDepth 100000 in
theorem eq_ty (t u : Ty) (w : World) : (Op.equalIn 10000 24 (tyV t) (tyV u)).run Tryd.prog w = .ok (decide (t = u)) w := by
  obtain ⟨k, d, i, p⟩ := t
  obtain ⟨k', d', i', p'⟩ := u
  dsimp only [tyV]
  have es := eqS p p'
  have ek := nat_eq k k'
  have ei := nat_eq i i'
  have hd : decide ((⟨k, d, i, p⟩ : Ty) = ⟨k', d', i', p'⟩) = (decide (k = k') && (decide (d = d') && (decide (i = i') && decide (p = p')))) := by
    simp
  rw [hd]
  generalize strOf p = S at *
  generalize strOf p' = S' at *
  have u1 := Tryd.underlying22
  have a1 := Tryd.isAgg22
  have z1 := Tryd.sizeOf22
  have u2 := Tryd.underlying3
  have a2 := Tryd.isAgg3
  have z2 := Tryd.sizeOf3
  have u3 := Tryd.underlying9
  have a3 := Tryd.isAgg9
  have z3 := Tryd.sizeOf9
  have hS : Tryd.prog.underlying 24 = some (.struct (Tryd.prog.fieldsOf 24)) := by kernel_rfl
  have hp : Tryd.prog.stoodInHeld 24 = false := by kernel_rfl
  rw [show (10000 : Nat) = 9999 + 1 from rfl, run_equalIn_agg w 9999 24 _ _ hS hp]
  simp only [Program.fieldsOf, Tryd.underlying24]
  go_simp
  by_cases h1 : k = k' <;> by_cases h2 : d = d' <;> by_cases h3 : i = i' <;> by_cases h4 : p = p' <;> simp [h1, h2, h3, h4]
theorem may_hi {t : Ty} (h : t.d < 0 ∨ 64 < t.d) : mayT t = false := by unfold mayT; rw [if_pos h]
theorem may_p {t : Ty} (h : ¬ (t.d < 0 ∨ 64 < t.d)) (hk : prim t.k = true) : mayT t = (decide (t.i = 0) && decide (t.p = [])) := by unfold mayT; rw [if_neg h, if_pos hk]
theorem may_c {t : Ty} (h : ¬ (t.d < 0 ∨ 64 < t.d)) (hk : t.k = 4) : mayT t = ((prim t.i && decide (t.p = [])) || (decide (t.i = 0) && isName t.p)) := by unfold mayT; rw [if_neg h, if_neg (by rw [hk]; decide), if_pos hk]
theorem may_t {t : Ty} (h : ¬ (t.d < 0 ∨ 64 < t.d)) (hk : prim t.k = false) (h4 : t.k ≠ 4) : mayT t = decide (t = tTimer) := by unfold mayT; rw [if_neg h, if_neg (by rw [hk]; decide), if_neg h4]
theorem box4T {W : World} {q : Nat} {t : Ty} (h : BoxS W q 24 (tyC t)) : (W.cell? ⟨q, 0, none⟩ = some (.int .u8 (t.k : Int)) ∧ W.cell? ⟨q, 1, none⟩ = some (.int .i64 t.d) ∧ W.cell? ⟨q, 2, none⟩ = some (.int .u8 (t.i : Int)) ∧ W.cell? ⟨q, 3, none⟩ = some (.string (strOf t.p))) ∧ q < W.heap.size := box4 h
set_option maxRecDepth 100000 in
set_option maxHeartbeats 8000000 in
theorem RMayT_any (t : Ty) (hx : OKt t) (w : World) : Calls Tryd.prog 12 #[tyV t] w fun e w' => e = .returned (.bool (mayT t)) ∧ Below w.heap.size w w' := by
  obtain ⟨k, d, i, p⟩ := t
  have hl : p.length ≤ maxLen := hx.2.2.1
  have hk256 : (k : Int) < 256 := by have := hx.1; dsimp only at this; omega
  have hk0 : (0 : Int) ≤ (k : Int) := by omega
  have bx := Lib.hid (boxS_new w 24 #[.int .u8 (k : Int), .int .i64 d, .int .u8 (i : Int), .string (strOf p)])
  have bV := Lib.hid (bal (b0 w) (.cells #[.int .u8 (k : Int), .int .i64 d, .int .u8 (i : Int), .string (strOf p)] 24))
  have CN := Lib.hid (fun (W : World) => RName_any p hl W)
  have CP := Lib.hid (fun (W : World) => RPrim_any k W)
  have CI := Lib.hid (fun (W : World) => RPrim_any i W)
  have he := eq_nil9 p
  have q4 : ((k : Int) == 4) = decide (k = 4) := nat_eq k 4
  have q0 : ((i : Int) == 0) = decide (i = 0) := nat_eq i 0
  clear hx hl
  dsimp only [tyV]
  by_cases hd : d < 0
  · rw [may_hi (t := ⟨k, d, i, p⟩) (.inl hd)]
    go_enter Tryd.func12, Tryd.ntmps12
    go_wp2
    go_ret
    exact ⟨rfl, bV.out⟩
  by_cases hd2 : 64 < d
  · rw [may_hi (t := ⟨k, d, i, p⟩) (.inr hd2)]
    go_enter Tryd.func12, Tryd.ntmps12
    go_wp2
    go_ret
    exact ⟨rfl, bV.out⟩
  have hdd : ¬ (d < 0 ∨ 64 < d) := by omega
  cases hp : prim k with
  | true =>
    rw [may_p (t := ⟨k, d, i, p⟩) hdd hp]
    rw [hp] at CP
    dsimp only
    generalize decide (p = []) = b1 at *
    generalize decide (i = 0) = b2 at *
    clear hdd hp q4 CN CI
    cases b1 <;> cases b2
    all_goals
      go_enter Tryd.func12, Tryd.ntmps12
      go_wp2_with (go_at_call 32; (with_reducible refine (CP.out _).mono ?_); rintro e w2 ⟨rfl, rfl⟩)
      go_ret
      exact ⟨rfl, bV.out⟩
  | false =>
    rw [hp] at CP
    by_cases h4 : k = 4
    · rw [may_c (t := ⟨k, d, i, p⟩) hdd h4]
      rw [decide_eq_true h4] at q4
      dsimp only
      generalize decide (p = []) = b1 at *
      generalize decide (i = 0) = b2 at *
      generalize prim i = b3 at *
      generalize isName p = b4 at *
      clear hdd hp h4
      cases b1 <;> cases b2 <;> cases b3 <;> cases b4
      all_goals
        go_enter Tryd.func12, Tryd.ntmps12
        go_wp2_with (first
          | (go_at_call 32; (with_reducible refine (CP.out _).mono ?_); rintro e w2 ⟨rfl, rfl⟩)
          | (go_at_call 32; (with_reducible refine (CI.out _).mono ?_); rintro e w2 ⟨rfl, rfl⟩)
          | (go_at_call 33; (with_reducible refine (CN.out _).mono ?_); rintro e w3 ⟨rfl, b⟩; have B3 := Lib.hid (blw bV.out b); clear b))
        go_ret
        first | exact ⟨rfl, B3.out⟩ | exact ⟨rfl, bV.out⟩
    · have ht := Lib.hid (may_t (t := ⟨k, d, i, p⟩) hdd hp h4)
      rw [decide_eq_false h4] at q4
      have hq := fun W => eq_ty ⟨k, d, i, p⟩ tTimer W
      have key : ∀ r, mayT ⟨k, d, i, p⟩ = r → decide ((⟨k, d, i, p⟩ : Ty) = tTimer) = r → (Calls Tryd.prog 12 #[.agg #[.int .u8 (k : Int), .int .i64 d, .int .u8 (i : Int), .string (strOf p)]] w fun e w' => e = .returned (.bool r) ∧ Below w.heap.size w w') := by
        intro r _ hr
        rw [hr] at hq
        have hq2 : ∀ W : World, (Op.equalIn 10000 24 (.agg #[.int .u8 (k : Int), .int .i64 d, .int .u8 (i : Int), .string (strOf p)]) (.agg #[.int .u8 5, .int .i64 0, .int .u8 0, .string ⟨#[]⟩])).run Tryd.prog W = .ok r W := hq
        clear hq hr hdd hp h4 CN CI ht
        go_enter Tryd.func12, Tryd.ntmps12
        go_wp2_with (go_at_call 32; (with_reducible refine (CP.out _).mono ?_); rintro e w2 ⟨rfl, rfl⟩)
        go_ret
        exact ⟨rfl, bV.out⟩
      exact key _ rfl ht.out.symm
/-! ### Values, sizes, words -/
theorem RFits_any (k : Nat) (v : Int) (w : World) : Calls Tryd.prog 24 #[.int .u8 (k : Int), .int .i32 v] w fun e w' => e = .returned (.bool (fits k v)) ∧ w = w' := by
  have q1 : ((k : Int) == 1) = decide (k = 1) := nat_eq k 1
  have q2 : ((k : Int) == 2) = decide (k = 2) := nat_eq k 2
  have q3 : ((k : Int) == 3) = decide (k = 3) := nat_eq k 3
  have q4 : (v == 0) = decide (v = 0) := by by_cases h : v = 0 <;> simp [h]
  have q5 : (v == 1) = decide (v = 1) := by by_cases h : v = 1 <;> simp [h]
  have hf : fits k v = (decide (k = 1) || (!decide (k = 1) && ((decide (k = 2) && (decide (0 ≤ v) && decide (v ≤ 255))) || (!decide (k = 2) && (decide (k = 3) && (decide (v = 0) || decide (v = 1))))))) := by
    unfold fits
    by_cases h1 : k = 1 <;> by_cases h2 : k = 2 <;> by_cases h3 : k = 3 <;> simp [h1, h2, h3]
  rw [hf]
  clear hf
  generalize decide (k = 1) = b1 at *
  generalize decide (k = 2) = b2 at *
  generalize decide (k = 3) = b3 at *
  generalize decide (v = 0) = b4 at *
  generalize decide (v = 1) = b5 at *
  by_cases g1 : 0 ≤ v <;> by_cases g2 : v ≤ 255
  all_goals
    simp only [g1, g2, decide_true, decide_false]
    cases b1 <;> cases b2 <;> cases b3 <;> cases b4 <;> cases b5
    all_goals
      go_enter Tryd.func24, Tryd.ntmps24
      go_wp2
      go_ret
      exact ⟨rfl, rfl⟩
theorem RSize_any (k : Nat) (w : World) : Calls Tryd.prog 26 #[.int .u8 (k : Int)] w fun e w' => e = .returned (.int .i64 (sizeK k)) ∧ w = w' := by
  have q1 : ((k : Int) == 1) = decide (k = 1) := nat_eq k 1
  have C := Lib.hid (fun (W : World) => RPrim_any k W)
  have hs : sizeK k = if decide (k = 1) = true then 4 else if prim k = true then 1 else 0 := by
    unfold sizeK prim
    by_cases h1 : k = 1 <;> by_cases h2 : k = 2 <;> by_cases h3 : k = 3 <;> simp [h1, h2, h3]
  rw [hs]
  clear hs
  generalize decide (k = 1) = b1 at *
  generalize prim k = b2 at *
  cases b1 <;> cases b2
  all_goals
    go_enter Tryd.func26, Tryd.ntmps26
    go_wp2_with (go_at_call 32; (with_reducible refine (C.out _).mono ?_); rintro e w2 ⟨rfl, rfl⟩)
    go_ret
    exact ⟨rfl, rfl⟩
set_option maxRecDepth 100000 in
theorem RWords_any (t : Ty) (hx : OKt t) (w : World) : Calls Tryd.prog 16 #[tyV t] w fun e w' => e = .returned (.int .i64 (wordsT t)) ∧ Below w.heap.size w w' := by
  have C := Lib.hid (fun (W : World) => RMayT_any t hx W)
  obtain ⟨k, d, i, p⟩ := t
  have bx := Lib.hid (boxS_new w 24 #[.int .u8 (k : Int), .int .i64 d, .int .u8 (i : Int), .string (strOf p)])
  have bV := Lib.hid (bal (b0 w) (.cells #[.int .u8 (k : Int), .int .i64 d, .int .u8 (i : Int), .string (strOf p)] 24))
  have q5 : ((k : Int) == 5) = decide (k = 5) := nat_eq k 5
  have q0 : (d == 0) = decide (d = 0) := by by_cases h : d = 0 <;> simp [h]
  have hs : wordsT ⟨k, d, i, p⟩ = if mayT ⟨k, d, i, p⟩ = true then (if decide (k = 5) = true then 0 else if decide (d = 0) = true then 1 else d) else 0 := by
    unfold wordsT
    by_cases h5 : k = 5 <;> by_cases h0 : d = 0 <;> simp [h5, h0]
  rw [hs]
  clear hs hx
  dsimp only [tyV] at *
  generalize decide (k = 5) = b1 at *
  generalize decide (d = 0) = b2 at *
  generalize mayT ⟨k, d, i, p⟩ = b3 at *
  generalize strOf p = S at *
  cases b1 <;> cases b2 <;> cases b3
  all_goals
    go_enter Tryd.func16, Tryd.ntmps16
    go_wp2_with (go_at_call 12; (with_reducible refine (C.out _).mono ?_); rintro e w2 ⟨rfl, b⟩; obtain ⟨⟨x0, x1, x2, x3⟩, xl⟩ := box4 (bx.out.below b); have B2 := Lib.hid (blw bV.out b); clear b)
    go_ret
    exact ⟨rfl, B2.out⟩
end Go.Proofs.YtbkbhlbfkfnljaaDoor
