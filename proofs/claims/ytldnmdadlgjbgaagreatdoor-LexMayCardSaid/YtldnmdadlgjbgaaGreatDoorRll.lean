/- The reference: the text of tokens. -/
import Derived.Test.YtldnmdadlgjbgaaGreatDoorRlk
import Derived.Test.YtldnmdadlgjbgaaGreatDoorRld
import Derived.Test.YtldnmdadlgjbgaaGreatDoorLxg
set_option linter.unusedVariables false
set_option linter.unusedSimpArgs false
namespace Go.Proofs.YtldnmdadlgjbgaaGreatDoor
open Go Go.RowKit L8

def GivesX (w : World) (l : List Tk) (e : Ending) (w' : World) : Prop := e = .returned (.tuple #[.string (strOf (text l).1), .int .i64 (text l).2]) ∧ Below w.heap.size w w'
theorem text_arg {l : List Tk} {k : Nat} (h : k < l.length) (hm : may (l.getD k r0) = false) : text l = ([], 2) := by
  unfold text
  rw [if_neg]
  intro ha
  rw [List.all_eq_true] at ha
  rw [ha _ (getD_mem h)] at hm
  cases hm
theorem all_of {l : List Tk} (h : ∀ j, j < l.length → may (l.getD j r0) = true) : l.all may = true := by
  rw [List.all_eq_true]
  intro x hx
  obtain ⟨i, hi, rfl⟩ := List.getElem_of_mem hx
  have := h i hi
  rwa [List.getD_eq_getElem?_getD, List.getElem?_eq_getElem hi] at this
theorem text_long {l : List Tk} (h : l.all may = true) (hl : 256 < (textT l).length) : text l = ([], 3) := by
  unfold text; rw [if_pos h, if_neg (by omega)]
theorem text_ok {l : List Tk} (h : l.all may = true) (hl : (textT l).length ≤ 256) : text l = (textT l, 0) := by
  unfold text; rw [if_pos h, if_pos hl]
theorem rwV_eq (t : Tk) : rwV t = .agg #[.int .u8 (t.k : Int), .int .i64 t.a, .string (strOf t.tx), .int .i32 t.n] := rfl
theorem may_byte {t : Tk} (h : may t = true) : t.k = 4 → 0 ≤ t.n ∧ t.n ≤ 255 := by
  intro hk
  obtain ⟨_, _, hp⟩ := may_parts h
  rcases hp with h | h | h | h | h
  all_goals first | omega | exact ⟨h.2.2.1, h.2.2.2⟩
theorem one_le {t : Tk} (h : may t = true) (hx : OKx t) : (one t).length ≤ 60 := by
  have hk : ∀ s ∈ keys, s.length ≤ 20 := by decide
  have hs : ∀ s ∈ syms, s.length ≤ 20 := by decide
  obtain ⟨_, _, hp⟩ := may_parts h
  have e : t.tx.length ≤ 40 := by
    rcases hp with ⟨h1, h2, _⟩ | ⟨h1, h2, _⟩ | ⟨h1, h2⟩ | ⟨h1, h2, _⟩ | ⟨h1, h2, _⟩
    · unfold isName at h2
      simp only [Bool.and_eq_true, decide_eq_true_eq] at h2
      omega
    · have := hk _ (isKey_mem h2); omega
    · rw [h2]; simp
    · rw [h2]; simp
    · have := hs _ (isSym_mem h2); omega
  unfold one
  split
  · have := (text_len t.n (decide (t.n < 0)) hx.2.2.1 hx.2.2.2).2; omega
  · split
    · have := (shown_len t.n).2; simp only [List.length_cons, List.length_append, List.length_nil]; omega
    · omega
theorem text_first {l : List Tk} {k : Nat} (hk : k = 0) (h : k < l.length) : textT (l.take (k + 1)) = textT (l.take k) ++ one (l.getD k r0) := by
  subst hk
  rw [textT_one (x := l.getD 0 r0) (by rw [List.getD_eq_getElem?_getD, List.getElem?_eq_getElem h]; rfl)]
  simp [textT]
set_option maxRecDepth 100000 in
set_option maxHeartbeats 8000000 in
theorem RText_any {A : Option Addr} {c m : Nat} {l : List Tk} {w : World} (R : RR w A c l) (hm : l.length = m) : Calls Tryz.prog 19 #[.slice A m c] w (GivesX w l) := by
  have HR := Lib.hid R
  have HM := Lib.hid hm
  have hmx : m ≤ maxLen := by have := R.le; have := R.mx; omega
  unfold maxLen at hmx
  have HA := Lib.hid (fun (k : Nat) (h : k < m) (hx : may (l.getD k r0) = false) => text_arg (l := l) (k := k) (by omega) hx)
  have HAll := Lib.hid (fun (h : ∀ j, j < m → may (l.getD j r0) = true) => all_of (l := l) (fun j hj => h j (by omega)))
  have CM := Lib.hid (fun (k : Nat) (W : World) => RMay_any (l.getD k r0) (R.ok.get k) W)
  unfold GivesX
  clear R hm
  go_enter Tryz.func19, Tryz.ntmps19
  go_wp2
  go_loopw [4] (fun i wr => ∃ k : Nat, k ≤ m ∧ i = .int .i64 k ∧ Hid (Below w.heap.size w wr ∧ ∀ j, j < k → may (l.getD j r0) = true)) (fun i _ => m - (intOf i).toNat)
  case atStart => exact ⟨0, Nat.zero_le _, rfl, Lib.hid ⟨b0 w, fun j hj => absurd hj (by omega)⟩⟩
  case round =>
    obtain ⟨k, hk, rfl, H⟩ := hrel
    have hk0 : (0 : Int) ≤ (k : Int) := by omega
    by_cases hlt : (k : Int) < (m : Int)
    · obtain ⟨ad, rfl, c0, c1, c2, c3⟩ := (HR.out.keep H.out.1).rd k (by have := HM.out; omega)
      have C := Lib.hid (CM.out k)
      have HX := Lib.hid (fun h => HA.out k (by omega) h)
      have HY := Lib.hid (show may (l.getD k r0) = true → ∀ j, j < k + 1 → may (l.getD j r0) = true from fun h j hj => if h2 : j < k then H.out.2 j h2 else by rw [show j = k by omega]; exact h)
      have HB := Lib.hid H.out.1
      clear H
      rw [rwV_eq] at C
      generalize l.getD k r0 = x at *
      obtain ⟨xk, xa, xt, xn⟩ := x
      dsimp only at *
      generalize strOf xt = S at *
      cases hmay : may ⟨xk, xa, xt, xn⟩ with
      | false =>
        rw [hmay] at C
        have HE := Lib.hid (HX.out hmay)
        clear HX HY hmay
        go_wp2_with (go_at_call 13; (with_reducible refine (C.out _).mono ?_); rintro e v1 ⟨rfl, b⟩; have B1 := Lib.hid (blw HB.out b); clear b)
        go_ret2
        rw [HE.out]
        exact ⟨rfl, B1.out⟩
      | true =>
        rw [hmay] at C
        have HE := Lib.hid (HY.out hmay)
        clear HX HY hmay
        go_wp2_with (go_at_call 13; (with_reducible refine (C.out _).mono ?_); rintro e v1 ⟨rfl, b⟩; have B1 := Lib.hid (And.intro (blw HB.out b) HE.out); clear b)
        go_roundw
        case rel => exact ⟨k + 1, by omega, by go_num, B1⟩
        case measure => simp [intOf]; omega
    · obtain rfl : k = m := by omega
      have HT := Lib.hid (HAll.out H.out.2)
      have HB := Lib.hid H.out.1
      have HMay := Lib.hid (show ∀ j, j < k → may (l.getD j r0) = true from H.out.2)
      have HS := Lib.hid (fun (j : Nat) (h : j + 1 < k) => textT_snoc (l := l) (j := j) (d := r0) (by have := HM.out; omega))
      have HF := Lib.hid (fun (i : Nat) (hi : i = 0) (h : i < k) => text_first (l := l) hi (by have := HM.out; omega))
      have HLg := Lib.hid (fun (i : Nat) (h : 256 < (textT (l.take i)).length) => text_long (l := l) HT.out (by have := textT_take l i; omega))
      have HOk := Lib.hid (fun (h : (textT l).length ≤ 256) => text_ok (l := l) HT.out h)
      have HAll2 := Lib.hid (show l.take k = l from List.take_of_length_le (by have := HM.out; omega))
      have CO := Lib.hid (fun (i : Nat) (h : i < k) (W : World) => ROne_any (l.getD i r0) (HR.out.ok.get i) (may_byte (HMay.out i h)) W)
      have HLe := Lib.hid (fun (i : Nat) (h : i < k) => one_le (HMay.out i h) (HR.out.ok.get i))
      clear H CM HA HAll hlt HT HMay
      go_wp2
      go_loopw [5, 6] (fun s i wr => ∃ j : Nat, j ≤ k ∧ i = .int .i64 j ∧ s = .string (strOf (textT (l.take j))) ∧ (textT (l.take j)).length ≤ 256 ∧ Hid (Below w.heap.size w wr)) (fun _ i _ => k - (intOf i).toNat)
      case atStart => exact ⟨0, Nat.zero_le _, rfl, by simp [textT, strOf], by simp [textT], HB⟩
      case round =>
        obtain ⟨j, hj, rfl, rfl, h256, H⟩ := hrel
        have hj0 : (0 : Int) ≤ (j : Int) := by omega
        by_cases hlt : (j : Int) < (k : Int)
        · obtain ⟨ad, rfl, c0⟩ := (HR.out.keep H.out).rd j (by have := HM.out; omega)
          have K := Lib.hid (fun (W : World) (b : Below wr.heap.size wr W) => c0.keep b)
          have CO1 := Lib.hid (CO.out j (by omega))
          have hle := HLe.out j (by omega)
          obtain ⟨S2, hS2⟩ : ∃ S, strOf (textT (l.take (j + 1))) = S := ⟨_, rfl⟩
          obtain ⟨N, hN⟩ : ∃ N, (textT (l.take (j + 1))).length = N := ⟨_, rfl⟩
          have hsz : S2.size = N := by rw [← hS2, size_strOf, hN]
          have HLg1 := Lib.hid (fun (h : 256 < N) => HLg.out (j + 1) (by omega))
          have HE2 := Lib.hid (And.intro hS2 hN)
          have HF1 := Lib.hid (fun (h : j = 0) => HF.out j h (by omega))
          rw [rwV_eq] at CO1
          by_cases hz : (0 : Int) < (j : Int)
          · obtain ⟨p, hp⟩ : ∃ p : Nat, j = p + 1 := ⟨j - 1, by omega⟩
            have hpj : (j : Int) - 1 = (p : Int) := by omega
            have hp0 : (0 : Int) ≤ (p : Int) := by omega
            have hpk : (p : Int) < (k : Int) := by omega
            have hs := HS.out p (by omega)
            rw [show p + 2 = j + 1 by omega, ← hp] at hs
            obtain ⟨ad2, ead, d0⟩ := (HR.out.keep H.out).rd p (by have := HM.out; omega)
            injection ead with ead
            subst ead
            have CN := Lib.hid (fun (W : World) => Rnear_any (l.getD p r0) (l.getD j r0) W)
            rw [rwV_eq, rwV_eq] at CN
            obtain ⟨c0, c1, c2, c3⟩ := c0
            obtain ⟨d0, d1, d2, d3⟩ := d0
            clear HS HF HLg CO HLe hp HF1 hN
            unfold sep at hs
            generalize l.getD p r0 = y at *
            generalize l.getD j r0 = x at *
            cases hne : near y x with
            | true =>
              rw [hne] at hs CN
              rw [if_pos rfl] at hs
              have cat1 : Op.stringOp .add (strOf (textT (l.take j))) (strOf (one x)) = pure (.string S2) := by rw [cat_str _ _ (by omega), ← hs, hS2]
              clear hs hS2 hne hle
              unfold RwAt at K
              obtain ⟨xk, xa, xt, xn⟩ := x
              obtain ⟨yk, ya, yt, yn⟩ := y
              dsimp only at *
              generalize strOf (textT (l.take j)) = S0 at *
              generalize strOf (one ⟨xk, xa, xt, xn⟩) = S3 at *
              generalize strOf xt = xs at *
              generalize strOf yt = ys at *
              have qz : decide (0 < j) = true := decide_eq_true (by omega)
              have wj : IntKind.i64.wrap ((j : Int) - 1) = (p : Int) := by unfold IntKind.wrap; simp [IntKind.bits, IntKind.signed]; omega
              clear hpj
              clear hz
              go_wp2_with fail
              go_region_held3 (fun w' => w'.cell? (ad.add (j * 4)) = some (.int .u8 (xk : Int)) ∧ w'.cell? ⟨(ad.add (j * 4)).block, (ad.add (j * 4)).off + 1, none⟩ = some (.int .i64 xa) ∧ w'.cell? ⟨(ad.add (j * 4)).block, (ad.add (j * 4)).off + 2, none⟩ = some (.string xs) ∧ w'.cell? ⟨(ad.add (j * 4)).block, (ad.add (j * 4)).off + 3, none⟩ = some (.int .i32 xn) ∧ w'.cell? (ad.add (p * 4)) = some (.int .u8 (yk : Int)) ∧ w'.cell? ⟨(ad.add (p * 4)).block, (ad.add (p * 4)).off + 1, none⟩ = some (.int .i64 ya) ∧ w'.cell? ⟨(ad.add (p * 4)).block, (ad.add (p * 4)).off + 2, none⟩ = some (.string ys) ∧ w'.cell? ⟨(ad.add (p * 4)).block, (ad.add (p * 4)).off + 3, none⟩ = some (.int .i32 yn))
                (first | (exact ⟨c0, c1, c2, c3, d0, d1, d2, d3⟩) | (exact ⟨f0, f1, f2, f3, g0, g1, g2, g3⟩) | go_keep)
                (first | (go_at_call 43; (with_reducible refine (CN.out _).mono ?_); rintro e v1 ⟨rfl, b⟩; have B1 := Lib.hid (blw (bdrew H.out 1) b); have f0 := (b.cell (g_lt c0)).trans c0; have f1 := (b.cell (g_lt c1)).trans c1; have f2 := (b.cell (g_lt c2)).trans c2; have f3 := (b.cell (g_lt c3)).trans c3; have g0 := (b.cell (g_lt d0)).trans d0; have g1 := (b.cell (g_lt d1)).trans d1; have g2 := (b.cell (g_lt d2)).trans d2; have g3 := (b.cell (g_lt d3)).trans d3; clear b))
              all_goals
                by_cases hlong : (256 : Int) < (N : Int)
                · go_wp2_with (go_at_call 44; (with_reducible refine (CO1.out _).mono ?_); rintro e v2 ⟨rfl, b⟩; have B2 := Lib.hid (blw B1.out b); clear b)
                  go_ret2
                  rw [HLg1.out (by omega)]
                  exact ⟨rfl, B2.out⟩
                · go_wp2_with (go_at_call 44; (with_reducible refine (CO1.out _).mono ?_); rintro e v2 ⟨rfl, b⟩; have B2 := Lib.hid (blw B1.out b); clear b)
                  go_roundw
                  case rel => exact ⟨j + 1, by omega, by go_num, by rw [HE2.out.1], by rw [HE2.out.2]; omega, B2⟩
                  case measure => simp [intOf]; omega
            | false =>
              rw [hne] at hs CN
              rw [if_neg (by decide)] at hs
              have cat0 : Op.stringOp .add (strOf (textT (l.take j))) ⟨#[32]⟩ = pure (.string (strOf (textT (l.take j) ++ [32]))) := cat_str _ [32] (by simp; omega)
              have cat1 : Op.stringOp .add (strOf (textT (l.take j) ++ [32])) (strOf (one x)) = pure (.string S2) := by
                rw [cat_str _ _ (by simp; omega), ← hS2, hs, List.append_assoc]; rfl
              clear hs hS2 hne hle
              unfold RwAt at K
              obtain ⟨xk, xa, xt, xn⟩ := x
              obtain ⟨yk, ya, yt, yn⟩ := y
              dsimp only at *
              generalize strOf (textT (l.take j) ++ [32]) = S1 at *
              generalize strOf (textT (l.take j)) = S0 at *
              generalize strOf (one ⟨xk, xa, xt, xn⟩) = S3 at *
              generalize strOf xt = xs at *
              generalize strOf yt = ys at *
              have qz : decide (0 < j) = true := decide_eq_true (by omega)
              have wj : IntKind.i64.wrap ((j : Int) - 1) = (p : Int) := by unfold IntKind.wrap; simp [IntKind.bits, IntKind.signed]; omega
              clear hpj
              clear hz
              go_wp2_with fail
              go_region_held3 (fun w' => w'.cell? (ad.add (j * 4)) = some (.int .u8 (xk : Int)) ∧ w'.cell? ⟨(ad.add (j * 4)).block, (ad.add (j * 4)).off + 1, none⟩ = some (.int .i64 xa) ∧ w'.cell? ⟨(ad.add (j * 4)).block, (ad.add (j * 4)).off + 2, none⟩ = some (.string xs) ∧ w'.cell? ⟨(ad.add (j * 4)).block, (ad.add (j * 4)).off + 3, none⟩ = some (.int .i32 xn) ∧ w'.cell? (ad.add (p * 4)) = some (.int .u8 (yk : Int)) ∧ w'.cell? ⟨(ad.add (p * 4)).block, (ad.add (p * 4)).off + 1, none⟩ = some (.int .i64 ya) ∧ w'.cell? ⟨(ad.add (p * 4)).block, (ad.add (p * 4)).off + 2, none⟩ = some (.string ys) ∧ w'.cell? ⟨(ad.add (p * 4)).block, (ad.add (p * 4)).off + 3, none⟩ = some (.int .i32 yn))
                (first | (exact ⟨c0, c1, c2, c3, d0, d1, d2, d3⟩) | (exact ⟨f0, f1, f2, f3, g0, g1, g2, g3⟩) | go_keep)
                (first | (go_at_call 43; (with_reducible refine (CN.out _).mono ?_); rintro e v1 ⟨rfl, b⟩; have B1 := Lib.hid (blw (bdrew H.out 1) b); have f0 := (b.cell (g_lt c0)).trans c0; have f1 := (b.cell (g_lt c1)).trans c1; have f2 := (b.cell (g_lt c2)).trans c2; have f3 := (b.cell (g_lt c3)).trans c3; have g0 := (b.cell (g_lt d0)).trans d0; have g1 := (b.cell (g_lt d1)).trans d1; have g2 := (b.cell (g_lt d2)).trans d2; have g3 := (b.cell (g_lt d3)).trans d3; clear b))
              all_goals
                by_cases hlong : (256 : Int) < (N : Int)
                · go_wp2_with (go_at_call 44; (with_reducible refine (CO1.out _).mono ?_); rintro e v2 ⟨rfl, b⟩; have B2 := Lib.hid (blw B1.out b); clear b)
                  go_ret2
                  rw [HLg1.out (by omega)]
                  exact ⟨rfl, B2.out⟩
                · go_wp2_with (go_at_call 44; (with_reducible refine (CO1.out _).mono ?_); rintro e v2 ⟨rfl, b⟩; have B2 := Lib.hid (blw B1.out b); clear b)
                  go_roundw
                  case rel => exact ⟨j + 1, by omega, by go_num, by rw [HE2.out.1], by rw [HE2.out.2]; omega, B2⟩
                  case measure => simp [intOf]; omega
          · have hs := HF1.out (by omega)
            clear HS HF HLg CO HLe HF1 hN
            generalize l.getD j r0 = x at *
            have cat1 : Op.stringOp .add (strOf (textT (l.take j))) (strOf (one x)) = pure (.string S2) := by rw [cat_str _ _ (by omega), ← hs, hS2]
            clear hs hS2 hle c0
            unfold RwAt at K
            obtain ⟨xk, xa, xt, xn⟩ := x
            dsimp only at *
            generalize strOf (textT (l.take j)) = S0 at *
            generalize strOf (one ⟨xk, xa, xt, xn⟩) = S3 at *
            generalize strOf xt = xs at *
            have qz : decide (0 < j) = false := decide_eq_false (by omega)
            clear hz
            go_wp2_with fail
            go_quiet (fail)
            obtain ⟨f0, f1, f2, f3⟩ := K.out _ (bdrew (b0 wr) nq)
            have B1 := Lib.hid (bdrew H.out nq)
            clear K H
            generalize wr.drewN nq = W at *
            by_cases hlong : (256 : Int) < (N : Int)
            · go_wp2_with (go_at_call 44; (with_reducible refine (CO1.out _).mono ?_); rintro e v2 ⟨rfl, b⟩; have B2 := Lib.hid (blw B1.out b); clear b)
              go_ret2
              rw [HLg1.out (by omega)]
              exact ⟨rfl, B2.out⟩
            · go_wp2_with (go_at_call 44; (with_reducible refine (CO1.out _).mono ?_); rintro e v2 ⟨rfl, b⟩; have B2 := Lib.hid (blw B1.out b); clear b)
              go_roundw
              case rel => exact ⟨j + 1, by omega, by go_num, by rw [HE2.out.1], by rw [HE2.out.2]; omega, B2⟩
              case measure => simp [intOf]; omega
        · obtain rfl : j = k := by omega
          rw [HAll2.out] at h256
          go_wp2
          go_ret2
          rw [HAll2.out, HOk.out h256]
          exact ⟨rfl, H.out⟩
end Go.Proofs.YtldnmdadlgjbgaaGreatDoor
