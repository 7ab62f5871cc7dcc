/- LexSpaces: its walk. Written by gen8s.py. -/
import Derived.Test.YtldnmdadlgjbgaaDoorGood
import Derived.Test.YtldnmdadlgjbgaaDoorLwd
import Derived.Test.YtldnmdadlgjbgaaDoorLwe
import Derived.IntWalk
set_option linter.unusedVariables false
set_option linter.unusedSimpArgs false
namespace Go.Proofs.YtldnmdadlgjbgaaDoor
open Go Go.RowKit L8

theorem extract_from (l : Bs) (k : Nat) : (strOf l).extract k l.length = strOf (l.drop k) := by
  apply ByteArray.ext
  apply Array.ext'
  have h2 : (strOf l).data.toList = l := rfl
  simp only [ByteArray.data_extract, Array.toList_extract, h2]
  simp [strOf, List.extract]
  exact List.take_of_length_le (by simp)
theorem wide_at (l : List Tk) (n i j : Nat) (h : j < l.length) (hi : i ≤ l.length) : (l.take i ++ (l.drop i).map (shift n)).getD j r0 = if j < i then l.getD j r0 else shift n (l.getD j r0) := by
  have hl : (l.take i).length = i := by rw [List.length_take]; omega
  by_cases hj : j < i
  · rw [if_pos hj]
    simp [List.getElem?_append_left (show j < (l.take i).length by omega), List.getElem?_take, hj]
  · rw [if_neg hj]
    have h3 : (l.take i ++ (l.drop i).map (shift n))[j]? = some (shift n l[j]) := by
      rw [List.getElem?_append_right (by omega), hl, List.getElem?_map, List.getElem?_drop, show i + (j - i) = j by omega, List.getElem?_eq_getElem h]
      rfl
    rw [List.getD_eq_getElem?_getD, h3, List.getD_eq_getElem?_getD, List.getElem?_eq_getElem h]
    rfl
theorem wide_kern (l : List Tk) (n i : Nat) : kern (l.take i ++ (l.drop i).map (shift n)) = kern l := by
  rw [kern_app, kern_shift, ← kern_app, List.take_append_drop]
theorem wide_len (s : Bs) (k n : Nat) (h : k ≤ s.length) : (s.take k ++ List.replicate n 32 ++ s.drop k).length = s.length + n := by
  rw [List.length_append, List.length_append, List.length_take, List.length_drop, List.length_replicate]; omega
theorem place_end (s : Bs) (l : List Tk) : placeOf s 0 l l.length = s.length := by unfold placeOf; rw [if_neg (by omega)]
theorem place_in {s : Bs} {l : List Tk} (hl : toks s 0 = .ok l) {i : Nat} (h : i < l.length) : (l.getD i r0).a = ((placeOf s 0 l i : Nat) : Int) := by
  unfold placeOf
  rw [if_pos h]
  have h1 := (toks_ge _ s 0 l (Nat.le_refl _) hl (l.getD i r0) (getD_mem h)).1
  show (l.getD i r0).a = (((l.getD i r0).a - ((0 : Nat) : Int)).toNat : Int)
  omega
theorem may_at' {t : Tk} (h : may t = true) : 0 ≤ t.a ∧ t.a ≤ 255 := ⟨(may_parts h).1, (may_parts h).2.1⟩
set_option maxRecDepth 100000 in
set_option maxHeartbeats 32000000 in
theorem walkLexSpaces (a0 : ByteArray) (w0 : a0.size ≤ maxLen) (a1 : Int) (w1 : (Lit.int .u8 a1).wf = true) (a2 : Int) (w2 : (Lit.int .u8 a2).wf = true) (w : World) (ht : W1.Tab w) :
    Calls Tryd.prog 5 #[.string a0, .int .u8 a1, .int .u8 a2] w fun e w' => e = .returned (.bool true) ∧ Below w.heap.size w w' := by
  obtain ⟨s, rfl⟩ : ∃ l : Bs, a0 = strOf l := ⟨_, str_self a0⟩
  have hsz := size_strOf s
  rw [hsz] at w0
  have hy := u8_wf w1
  have hz := u8_wf w2
  obtain ⟨y, rfl⟩ : ∃ y : Nat, a1 = (y : Int) := ⟨a1.toNat, by omega⟩
  obtain ⟨z, rfl⟩ : ∃ z : Nat, a2 = (z : Int) := ⟨a2.toNat, by omega⟩
  obtain ⟨y0, y1⟩ := hy
  obtain ⟨z0, z1⟩ := hz
  clear w1 w2
  have CA := Lib.hid (fun (W : World) (h : W1.Tab W) => awake_any W h)
  have HT := Lib.hid (fun (X : World) (b : Below w.heap.size w X) => ht.below b)
  rcases tokens_ways s with ⟨_, htk⟩ | ⟨_, p, _, htk⟩ | ⟨h256, l, hl, htk⟩
  · have C1 := Lib.hid (Tokens_at w0 w ht htk)
    clear ht w0 htk
    generalize s.length = N at *
    generalize strOf s = SA at *
    go_enter Tryd.func5, Tryd.ntmps5
    go_wp2_with (first
      | (go_at_call 12; (with_reducible refine (C1.out).mono ?_); rintro e v1 ⟨A1, c1, rfl, h1, h2⟩; have H1 := Lib.hid h2; clear h1 h2)
      | (go_at_call 9; (with_reducible refine (CA.out _ (HT.out _ H1.out)).mono ?_); rintro e v5 ⟨rfl, b⟩; have HB := Lib.hid (blw H1.out b); clear b))
    go_ret
    exact ⟨rfl, HB.out⟩
  · have C1 := Lib.hid (Tokens_at w0 w ht htk)
    clear ht w0 htk
    generalize s.length = N at *
    generalize strOf s = SA at *
    go_enter Tryd.func5, Tryd.ntmps5
    go_wp2_with (first
      | (go_at_call 12; (with_reducible refine (C1.out).mono ?_); rintro e v1 ⟨A1, c1, rfl, h1, h2⟩; have H1 := Lib.hid h2; clear h1 h2)
      | (go_at_call 9; (with_reducible refine (CA.out _ (HT.out _ H1.out)).mono ?_); rintro e v5 ⟨rfl, b⟩; have HB := Lib.hid (blw H1.out b); clear b))
    go_ret
    exact ⟨rfl, HB.out⟩
  · have OL := okl_may (toks_may _ s 0 l (Nat.le_refl _) (by omega) hl)
    have hMay := toks_may _ s 0 l (Nat.le_refl _) (by omega) hl
    have C1 : Hid (Calls Tryd.prog 12 #[.string (strOf s)] w fun en w' => ∃ A c, en = .returned (.tuple #[.slice A l.length c, .int .i64 0, .int .i64 0]) ∧ St1 w w' A c l) := Lib.hid ((Tokens_at w0 w ht htk).mono fun e w' ⟨A, c, h1, h2, h3⟩ => ⟨A, c, h1, h3, ht.below h3, h2.rr OL⟩)
    have hml := toks_len_le _ s 0 l (Nat.le_refl _) hl
    have hWide := toks_wide (z % 9) s.length s 0 l
    obtain ⟨m, hm⟩ : ∃ m, l.length = m := ⟨_, rfl⟩
    obtain ⟨N, hN⟩ : ∃ N, s.length = N := ⟨_, rfl⟩
    obtain ⟨n, hn⟩ : ∃ n, z % 9 = n := ⟨_, rfl⟩
    obtain ⟨i, hi⟩ : ∃ i, y % (m + 1) = i := ⟨_, rfl⟩
    have em9 : (z : Int).tmod 9 = (n : Int) := by rw [Int.tmod_eq_emod_of_nonneg (by omega)]; omega
    have em2 : (y : Int).tmod ((m : Int) + 1) = (i : Int) := by rw [Int.tmod_eq_emod_of_nonneg (by omega), ← hi, Int.natCast_emod]; rfl
    have him : i ≤ m := by have := Nat.mod_lt y (show 0 < m + 1 by omega); omega
    have hn8 : n ≤ 8 := by omega
    have n0 : (0 : Int) ≤ (n : Int) := by omega
    have n1 : (n : Int) ≤ 8 := by omega
    have hmN : m ≤ N := by omega
    rw [hn] at hWide
    have hEnd := place_end s l
    rw [hN] at hsz h256 w0 hEnd
    rw [hm] at C1 hEnd
    have N0 : (0 : Int) ≤ (N : Int) := by omega
    have N1 : (N : Int) ≤ 256 := by omega
    have i0 : (0 : Int) ≤ (i : Int) := by omega
    have i1 : (i : Int) ≤ (m : Int) := by omega
    have m0 : (0 : Int) ≤ (m : Int) := by omega
    have m1 : (m : Int) ≤ 256 := by omega
    have md : ((m : Int) + 1 == 0) = false := by simp; omega
    have CR : Hid (∀ X : World, Calls Tryd.prog 14 #[.string ⟨#[32]⟩, .int .i64 (n : Int)] X fun e w' => e = .returned (.string (strOf (List.replicate n 32))) ∧ Below X.heap.size X w') := Lib.hid fun X => cRepeat1 32 n (by omega) X
    by_cases hm0 : ¬ (0 : Int) < (m : Int)
    · have g1 : decide ((0 : Int) < (m : Int)) = false := decide_eq_false hm0
      have hPl : placeOf s 0 l m = N := hEnd
      obtain ⟨hKN, hw⟩ := hWide m (Nat.le_refl _) hl (by omega)
      rw [hPl] at hKN hw
      have hWl := wide_len s N n hKN
      have hQl : (l.take m ++ (l.drop m).map (shift n)).length = m := by rw [List.length_append, List.length_take, List.length_map, List.length_drop]; omega
      have hkern := wide_kern l n m
      have hAt := fun (j : Nat) (h : j < l.length) => wide_at l n m j h (by omega)
      have c1 : Op.stringOp .add (strOf (s.take N)) (strOf (List.replicate n 32)) = pure (.string (strOf (s.take N ++ List.replicate n 32))) := cat_str _ _ (by rw [List.length_take, List.length_replicate]; omega)
      have c2 : Op.stringOp .add (strOf (s.take N ++ List.replicate n 32)) (strOf (s.drop N)) = pure (.string (strOf (s.take N ++ List.replicate n 32 ++ s.drop N))) := cat_str _ _ (by rw [List.length_append, List.length_take, List.length_replicate, List.length_drop]; omega)
      have x1 := extract_to s N
      have x2 := extract_from s N
      have x3 := fun W => cut_to s N hKN W
      have x4 := fun W => cut_from s N hKN W
      have hszW := size_strOf (s.take N ++ List.replicate n 32 ++ s.drop N)
      rw [hWl] at hszW
      rw [hN] at x2 hszW hWl hKN
      obtain ⟨NW, hNW⟩ : ∃ v, N + n = v := ⟨_, rfl⟩
      rw [hNW] at hszW hWl
      have NW0 : (0 : Int) ≤ (NW : Int) := by omega
      have NW1 : (NW : Int) ≤ 264 := by omega
      have K1 : (N : Int) ≤ (N : Int) := by omega
      have K0 : (0 : Int) ≤ (N : Int) := by omega
      generalize s.take N ++ List.replicate n 32 ++ s.drop N = Wd at *
      generalize l.take m ++ (l.drop m).map (shift n) = q at *
      by_cases hwide : (256 : Int) < (NW : Int)
      · have C2 := Lib.hid (fun (X : World) (h : W1.Tab X) => Tokens_at (s := Wd) (by unfold maxLen; omega) X h (tokens_long (by omega)))
        clear hWide hw hQl hkern hAt hWl hl htk OL hMay hEnd hPl ht w0 h256 hml hm hN hn hi him hn8 hmN hKN hNW
        generalize strOf Wd = S4 at *
        generalize strOf (s.take N ++ List.replicate n 32) = S3 at *
        generalize strOf (List.replicate n 32) = S2 at *
        generalize strOf (s.take N) = S1 at *
        generalize strOf (s.drop N) = S5 at *
        generalize strOf s = SA at *
        go_enter Tryd.func5, Tryd.ntmps5
        go_wp2_with (go_at_call 12; (with_reducible refine (C1.out).mono ?_); rintro e v1 ⟨A, c, rfl, h1⟩; have H1 := Lib.hid h1; clear h1)
        replace H1 := Lib.hid (show St1 w v1.drew A c l from H1.out.step (bdrew (b0 _) 1))
        go_region_held3 (fun _ => True) (go_keep) (first | (go_at_call 14; (with_reducible refine (CR.out _).mono ?_); rintro e u1 ⟨rfl, b⟩; replace H1 := Lib.hid (H1.out.step b); clear b))
        all_goals
          go_wp2_with (first
            | (go_at_call 12; (with_reducible refine (C2.out _ H1.out.tab).mono ?_); rintro e v3 ⟨A2, d2, rfl, h1, h2⟩; have H3 := Lib.hid (blw H1.out.1 h2); clear h1 h2)
            | (go_at_call 9; (with_reducible refine (CA.out _ (HT.out _ H3.out)).mono ?_); rintro e v6 ⟨rfl, b⟩; have HB := Lib.hid (blw H3.out b); clear b))
          go_ret
          exact ⟨rfl, HB.out⟩
      · have htw : tokens Wd = (q, 0, 0) := tokens_ok (by omega) hw
        have OQ := okl_may (toks_may _ Wd 0 q (Nat.le_refl _) (by omega) hw)
        have C3 : Hid (∀ (X : World) (A : Option Addr) (c : Nat) (h : St1 w X A c l), Calls Tryd.prog 12 #[.string (strOf Wd)] X fun en w' => ∃ A2 c2, en = .returned (.tuple #[.slice A2 m c2, .int .i64 0, .int .i64 0]) ∧ St2 w w' A c l A2 c2 q) := Lib.hid fun X A c h => by
          have := Tokens_at (by unfold maxLen; omega) X h.tab htw
          rw [hQl] at this
          exact this.mono fun e w' ⟨A2, c2, h1, h2, h3⟩ => ⟨A2, c2, h1, h.step h3, h2.rr OQ⟩
        have C5 : Hid (∀ (X : World) (A A2 : Option Addr) (c c2 : Nat) (h : St2 w X A c l A2 c2 q), Calls Tryd.prog 13 #[.slice A m c, .slice A2 m c2] X fun e w' => e = .returned (.bool true) ∧ Below X.heap.size X w') := Lib.hid fun X A A2 c c2 h => by
          have := RSame_any h.rr1 h.rr2 hm hQl
          rwa [decide_eq_true hkern.symm] at this
        have HAt := Lib.hid (fun (j : Nat) (h : j < m) => hAt j (by omega))
        have HMay := Lib.hid (fun (j : Nat) (h : j < m) => may_at' (hMay (l.getD j r0) (getD_mem (by omega))).1)
        have HM := Lib.hid hm
        have HQ := Lib.hid hQl
        clear hWide hw hQl hkern hAt hWl hl htk htw OL OQ hMay hEnd hPl ht w0 h256 hml hm hN hn hi him hn8 hmN hKN hNW
        generalize strOf Wd = S4 at *
        generalize strOf (s.take N ++ List.replicate n 32) = S3 at *
        generalize strOf (List.replicate n 32) = S2 at *
        generalize strOf (s.take N) = S1 at *
        generalize strOf (s.drop N) = S5 at *
        generalize strOf s = SA at *
        go_enter Tryd.func5, Tryd.ntmps5
        go_wp2_with (go_at_call 12; (with_reducible refine (C1.out).mono ?_); rintro e v1 ⟨A, c, rfl, h1⟩; have H1 := Lib.hid h1; clear h1)
        replace H1 := Lib.hid (show St1 w v1.drew A c l from H1.out.step (bdrew (b0 _) 1))
        go_region_held3 (fun _ => True) (go_keep) (first | (go_at_call 14; (with_reducible refine (CR.out _).mono ?_); rintro e u1 ⟨rfl, b⟩; replace H1 := Lib.hid (H1.out.step b); clear b))
        all_goals
          go_wp2_with (first
            | (go_at_call 12; (with_reducible refine (C3.out _ _ _ H1.out).mono ?_); rintro e v3 ⟨A2, d2, rfl, h1⟩; have H3 := Lib.hid h1; clear h1)
            | (go_at_call 13; (with_reducible refine (C5.out _ _ _ _ _ H3.out).mono ?_); rintro e v5 ⟨rfl, b⟩; have H5 := Lib.hid (H3.out.step b); clear b))
          clear H1 H3 C1 C3 C5 CR
          go_loopw [102] (fun v wr => ∃ j : Nat, j ≤ m ∧ v = .int .i64 j ∧ Hid (St2 w wr A c l A2 d2 q)) (fun v _ => m - (intOf v).toNat)
          case atStart => exact ⟨0, Nat.zero_le _, rfl, H5⟩
          case round =>
            obtain ⟨j, hj, rfl, H⟩ := hrel
            have hj0 : (0 : Int) ≤ (j : Int) := by omega
            by_cases hlt : (j : Int) < (m : Int)
            · exact absurd hlt (by omega)
            · obtain rfl : j = m := by omega
              clear HAt HMay HQ
              go_wp2_with (go_at_call 9; (with_reducible refine (CA.out _ H.out.tab).mono ?_); rintro e v6 ⟨rfl, b⟩; have HB := Lib.hid (blw H.out.1.1 b); clear b)
              go_ret
              exact ⟨rfl, HB.out⟩
    · have hm0 : (0 : Int) < (m : Int) := by omega
      have g1 : decide ((0 : Int) < (m : Int)) = true := decide_eq_true hm0
      by_cases him2 : (i : Int) < (m : Int)
      · obtain ⟨k, hPl⟩ : ∃ k, placeOf s 0 l i = k := ⟨_, rfl⟩
        have hka := place_in hl (i := i) (by omega)
        rw [hPl] at hka
        have HKa := Lib.hid hka
        have hli : i < l.length := by omega
        clear hka
        obtain ⟨hKN, hw⟩ := hWide i (Nat.le_refl _) hl (by omega)
        rw [hPl] at hKN hw
        have hWl := wide_len s k n hKN
        have hQl : (l.take i ++ (l.drop i).map (shift n)).length = m := by rw [List.length_append, List.length_take, List.length_map, List.length_drop]; omega
        have hkern := wide_kern l n i
        have hAt := fun (j : Nat) (h : j < l.length) => wide_at l n i j h (by omega)
        have c1 : Op.stringOp .add (strOf (s.take k)) (strOf (List.replicate n 32)) = pure (.string (strOf (s.take k ++ List.replicate n 32))) := cat_str _ _ (by rw [List.length_take, List.length_replicate]; omega)
        have c2 : Op.stringOp .add (strOf (s.take k ++ List.replicate n 32)) (strOf (s.drop k)) = pure (.string (strOf (s.take k ++ List.replicate n 32 ++ s.drop k))) := cat_str _ _ (by rw [List.length_append, List.length_take, List.length_replicate, List.length_drop]; omega)
        have x1 := extract_to s k
        have x2 := extract_from s k
        have x3 := fun W => cut_to s k hKN W
        have x4 := fun W => cut_from s k hKN W
        have hszW := size_strOf (s.take k ++ List.replicate n 32 ++ s.drop k)
        rw [hWl] at hszW
        rw [hN] at x2 hszW hWl hKN
        obtain ⟨NW, hNW⟩ : ∃ v, N + n = v := ⟨_, rfl⟩
        rw [hNW] at hszW hWl
        have NW0 : (0 : Int) ≤ (NW : Int) := by omega
        have NW1 : (NW : Int) ≤ 264 := by omega
        have K1 : (k : Int) ≤ (N : Int) := by omega
        have K0 : (0 : Int) ≤ (k : Int) := by omega
        generalize s.take k ++ List.replicate n 32 ++ s.drop k = Wd at *
        generalize l.take i ++ (l.drop i).map (shift n) = q at *
        by_cases hwide : (256 : Int) < (NW : Int)
        · have C2 := Lib.hid (fun (X : World) (h : W1.Tab X) => Tokens_at (s := Wd) (by unfold maxLen; omega) X h (tokens_long (by omega)))
          clear hWide hw hQl hkern hAt hWl hl htk OL hMay hEnd hPl ht w0 h256 hml hm hN hn hi him hn8 hmN hKN hNW
          generalize strOf Wd = S4 at *
          generalize strOf (s.take k ++ List.replicate n 32) = S3 at *
          generalize strOf (List.replicate n 32) = S2 at *
          generalize strOf (s.take k) = S1 at *
          generalize strOf (s.drop k) = S5 at *
          generalize strOf s = SA at *
          go_enter Tryd.func5, Tryd.ntmps5
          go_wp2_with (go_at_call 12; (with_reducible refine (C1.out).mono ?_); rintro e v1 ⟨A, c, rfl, h1⟩; have H1 := Lib.hid h1; clear h1; obtain ⟨ad, e1, Kc⟩ := H1.out.rr.rd i hli; cases e1; unfold RwAt at Kc; rw [HKa.out] at Kc; obtain ⟨f0, f1, f2, f3⟩ := Kc)
          replace H1 := Lib.hid (show St1 w v1.drew (some ad) c l from H1.out.step (bdrew (b0 _) 1))
          go_region_held3 (fun _ => True) (go_keep) (first | (go_at_call 14; (with_reducible refine (CR.out _).mono ?_); rintro e u1 ⟨rfl, b⟩; replace H1 := Lib.hid (H1.out.step b); clear b))
          all_goals
            go_wp2_with (first
              | (go_at_call 12; (with_reducible refine (C2.out _ H1.out.tab).mono ?_); rintro e v3 ⟨A2, d2, rfl, h1, h2⟩; have H3 := Lib.hid (blw H1.out.1 h2); clear h1 h2)
              | (go_at_call 9; (with_reducible refine (CA.out _ (HT.out _ H3.out)).mono ?_); rintro e v6 ⟨rfl, b⟩; have HB := Lib.hid (blw H3.out b); clear b))
            go_ret
            exact ⟨rfl, HB.out⟩
        · have htw : tokens Wd = (q, 0, 0) := tokens_ok (by omega) hw
          have OQ := okl_may (toks_may _ Wd 0 q (Nat.le_refl _) (by omega) hw)
          have C3 : Hid (∀ (X : World) (A : Option Addr) (c : Nat) (h : St1 w X A c l), Calls Tryd.prog 12 #[.string (strOf Wd)] X fun en w' => ∃ A2 c2, en = .returned (.tuple #[.slice A2 m c2, .int .i64 0, .int .i64 0]) ∧ St2 w w' A c l A2 c2 q) := Lib.hid fun X A c h => by
            have := Tokens_at (by unfold maxLen; omega) X h.tab htw
            rw [hQl] at this
            exact this.mono fun e w' ⟨A2, c2, h1, h2, h3⟩ => ⟨A2, c2, h1, h.step h3, h2.rr OQ⟩
          have C5 : Hid (∀ (X : World) (A A2 : Option Addr) (c c2 : Nat) (h : St2 w X A c l A2 c2 q), Calls Tryd.prog 13 #[.slice A m c, .slice A2 m c2] X fun e w' => e = .returned (.bool true) ∧ Below X.heap.size X w') := Lib.hid fun X A A2 c c2 h => by
            have := RSame_any h.rr1 h.rr2 hm hQl
            rwa [decide_eq_true hkern.symm] at this
          have HAt := Lib.hid (fun (j : Nat) (h : j < m) => hAt j (by omega))
          have HMay := Lib.hid (fun (j : Nat) (h : j < m) => may_at' (hMay (l.getD j r0) (getD_mem (by omega))).1)
          have HM := Lib.hid hm
          have HQ := Lib.hid hQl
          clear hWide hw hQl hkern hAt hWl hl htk htw OL OQ hMay hEnd hPl ht w0 h256 hml hm hN hn hi him hn8 hmN hKN hNW
          generalize strOf Wd = S4 at *
          generalize strOf (s.take k ++ List.replicate n 32) = S3 at *
          generalize strOf (List.replicate n 32) = S2 at *
          generalize strOf (s.take k) = S1 at *
          generalize strOf (s.drop k) = S5 at *
          generalize strOf s = SA at *
          go_enter Tryd.func5, Tryd.ntmps5
          go_wp2_with (go_at_call 12; (with_reducible refine (C1.out).mono ?_); rintro e v1 ⟨A, c, rfl, h1⟩; have H1 := Lib.hid h1; clear h1; obtain ⟨ad, e1, Kc⟩ := H1.out.rr.rd i hli; cases e1; unfold RwAt at Kc; rw [HKa.out] at Kc; obtain ⟨f0, f1, f2, f3⟩ := Kc)
          replace H1 := Lib.hid (show St1 w v1.drew (some ad) c l from H1.out.step (bdrew (b0 _) 1))
          go_region_held3 (fun _ => True) (go_keep) (first | (go_at_call 14; (with_reducible refine (CR.out _).mono ?_); rintro e u1 ⟨rfl, b⟩; replace H1 := Lib.hid (H1.out.step b); clear b))
          all_goals
            go_wp2_with (first
              | (go_at_call 12; (with_reducible refine (C3.out _ _ _ H1.out).mono ?_); rintro e v3 ⟨A2, d2, rfl, h1⟩; have H3 := Lib.hid h1; clear h1)
              | (go_at_call 13; (with_reducible refine (C5.out _ _ _ _ _ H3.out).mono ?_); rintro e v5 ⟨rfl, b⟩; have H5 := Lib.hid (H3.out.step b); clear b))
            clear H1 H3 C1 C3 C5 CR
            go_loopw [102] (fun v wr => ∃ j : Nat, j ≤ m ∧ v = .int .i64 j ∧ Hid (St2 w wr (some ad) c l A2 d2 q)) (fun v _ => m - (intOf v).toNat)
            case atStart => exact ⟨0, Nat.zero_le _, rfl, H5⟩
            case round =>
              obtain ⟨j, hj, rfl, H⟩ := hrel
              have hj0 : (0 : Int) ≤ (j : Int) := by omega
              by_cases hlt : (j : Int) < (m : Int)
              · obtain ⟨ad1, e1, K1c⟩ := H.out.rr1.rd j (by have := HM.out; omega)
                obtain ⟨ad2, e2, K2c⟩ := H.out.rr2.rd j (by have := HQ.out; omega)
                cases e1
                cases e2
                have hat := HAt.out j (by omega)
                have ha := HMay.out j (by omega)
                have HJ := Lib.hid (fun (Y : World) (b : Below wr.heap.size wr Y) => H.out.step b)
                by_cases hji : (j : Int) < (i : Int)
                · rw [if_pos (by omega)] at hat
                  rw [hat] at K2c
                  clear hat HAt HMay
                  generalize l.getD j r0 = x at *
                  unfold RwAt at K1c K2c
                  obtain ⟨xk, xa, xt, xn⟩ := x
                  dsimp only at *
                  generalize strOf xt = S at *
                  obtain ⟨f0, f1, f2, f3⟩ := K1c
                  obtain ⟨g0, g1, g2, g3⟩ := K2c
                  obtain ⟨ha0, ha1⟩ := ha
                  have q1 : decide (j < i) = true := decide_eq_true (by omega)
                  have q2 : decide (i ≤ j) = false := decide_eq_false (by omega)
                  go_wp2_with fail
                  go_quiet (fail)
                  have HB := Lib.hid (HJ.out _ (bdrew (b0 wr) nq))
                  clear H HJ f0 f1 f2 f3 g0 g1 g2 g3 q1 q2
                  generalize wr.drewN nq = W at *
                  go_wp2
                  go_roundw
                  case rel => exact ⟨j + 1, by omega, by go_num, HB⟩
                  case measure => simp [intOf]; omega
                · rw [if_neg (by omega)] at hat
                  rw [hat] at K2c
                  clear hat HAt HMay
                  generalize l.getD j r0 = x at *
                  unfold RwAt at K1c K2c
                  unfold shift at K2c
                  obtain ⟨xk, xa, xt, xn⟩ := x
                  dsimp only at *
                  generalize strOf xt = S at *
                  obtain ⟨f0, f1, f2, f3⟩ := K1c
                  obtain ⟨g0, g1, g2, g3⟩ := K2c
                  obtain ⟨ha0, ha1⟩ := ha
                  have q1 : decide (j < i) = false := decide_eq_false (by omega)
                  have q2 : decide (i ≤ j) = true := decide_eq_true (by omega)
                  have q3 : IntKind.i64.wrap (xa + (n : Int)) = xa + (n : Int) := IntWalk.i64_in _ (by omega)
                  go_wp2_with fail
                  go_quiet (fail)
                  have HB := Lib.hid (HJ.out _ (bdrew (b0 wr) nq))
                  clear H HJ f0 f1 f2 f3 g0 g1 g2 g3 q1 q2 q3
                  generalize wr.drewN nq = W at *
                  go_wp2
                  go_roundw
                  case rel => exact ⟨j + 1, by omega, by go_num, HB⟩
                  case measure => simp [intOf]; omega
              · obtain rfl : j = m := by omega
                clear HAt HMay HQ
                go_wp2_with (go_at_call 9; (with_reducible refine (CA.out _ H.out.tab).mono ?_); rintro e v6 ⟨rfl, b⟩; have HB := Lib.hid (blw H.out.1.1 b); clear b)
                go_ret
                exact ⟨rfl, HB.out⟩
      · obtain rfl : i = m := by omega
        have hPl : placeOf s 0 l i = N := hEnd
        obtain ⟨hKN, hw⟩ := hWide i (Nat.le_refl _) hl (by omega)
        rw [hPl] at hKN hw
        have hWl := wide_len s N n hKN
        have hQl : (l.take i ++ (l.drop i).map (shift n)).length = i := by rw [List.length_append, List.length_take, List.length_map, List.length_drop]; omega
        have hkern := wide_kern l n i
        have hAt := fun (j : Nat) (h : j < l.length) => wide_at l n i j h (by omega)
        have c1 : Op.stringOp .add (strOf (s.take N)) (strOf (List.replicate n 32)) = pure (.string (strOf (s.take N ++ List.replicate n 32))) := cat_str _ _ (by rw [List.length_take, List.length_replicate]; omega)
        have c2 : Op.stringOp .add (strOf (s.take N ++ List.replicate n 32)) (strOf (s.drop N)) = pure (.string (strOf (s.take N ++ List.replicate n 32 ++ s.drop N))) := cat_str _ _ (by rw [List.length_append, List.length_take, List.length_replicate, List.length_drop]; omega)
        have x1 := extract_to s N
        have x2 := extract_from s N
        have x3 := fun W => cut_to s N hKN W
        have x4 := fun W => cut_from s N hKN W
        have hszW := size_strOf (s.take N ++ List.replicate n 32 ++ s.drop N)
        rw [hWl] at hszW
        rw [hN] at x2 hszW hWl hKN
        obtain ⟨NW, hNW⟩ : ∃ v, N + n = v := ⟨_, rfl⟩
        rw [hNW] at hszW hWl
        have NW0 : (0 : Int) ≤ (NW : Int) := by omega
        have NW1 : (NW : Int) ≤ 264 := by omega
        have K1 : (N : Int) ≤ (N : Int) := by omega
        have K0 : (0 : Int) ≤ (N : Int) := by omega
        generalize s.take N ++ List.replicate n 32 ++ s.drop N = Wd at *
        generalize l.take i ++ (l.drop i).map (shift n) = q at *
        by_cases hwide : (256 : Int) < (NW : Int)
        · have C2 := Lib.hid (fun (X : World) (h : W1.Tab X) => Tokens_at (s := Wd) (by unfold maxLen; omega) X h (tokens_long (by omega)))
          clear hWide hw hQl hkern hAt hWl hl htk OL hMay hEnd hPl ht w0 h256 hml hm hN hn hi him hn8 hmN hKN hNW
          generalize strOf Wd = S4 at *
          generalize strOf (s.take N ++ List.replicate n 32) = S3 at *
          generalize strOf (List.replicate n 32) = S2 at *
          generalize strOf (s.take N) = S1 at *
          generalize strOf (s.drop N) = S5 at *
          generalize strOf s = SA at *
          go_enter Tryd.func5, Tryd.ntmps5
          go_wp2_with (go_at_call 12; (with_reducible refine (C1.out).mono ?_); rintro e v1 ⟨A, c, rfl, h1⟩; have H1 := Lib.hid h1; clear h1)
          replace H1 := Lib.hid (show St1 w v1.drew A c l from H1.out.step (bdrew (b0 _) 1))
          go_region_held3 (fun _ => True) (go_keep) (first | (go_at_call 14; (with_reducible refine (CR.out _).mono ?_); rintro e u1 ⟨rfl, b⟩; replace H1 := Lib.hid (H1.out.step b); clear b))
          all_goals
            go_wp2_with (first
              | (go_at_call 12; (with_reducible refine (C2.out _ H1.out.tab).mono ?_); rintro e v3 ⟨A2, d2, rfl, h1, h2⟩; have H3 := Lib.hid (blw H1.out.1 h2); clear h1 h2)
              | (go_at_call 9; (with_reducible refine (CA.out _ (HT.out _ H3.out)).mono ?_); rintro e v6 ⟨rfl, b⟩; have HB := Lib.hid (blw H3.out b); clear b))
            go_ret
            exact ⟨rfl, HB.out⟩
        · have htw : tokens Wd = (q, 0, 0) := tokens_ok (by omega) hw
          have OQ := okl_may (toks_may _ Wd 0 q (Nat.le_refl _) (by omega) hw)
          have C3 : Hid (∀ (X : World) (A : Option Addr) (c : Nat) (h : St1 w X A c l), Calls Tryd.prog 12 #[.string (strOf Wd)] X fun en w' => ∃ A2 c2, en = .returned (.tuple #[.slice A2 i c2, .int .i64 0, .int .i64 0]) ∧ St2 w w' A c l A2 c2 q) := Lib.hid fun X A c h => by
            have := Tokens_at (by unfold maxLen; omega) X h.tab htw
            rw [hQl] at this
            exact this.mono fun e w' ⟨A2, c2, h1, h2, h3⟩ => ⟨A2, c2, h1, h.step h3, h2.rr OQ⟩
          have C5 : Hid (∀ (X : World) (A A2 : Option Addr) (c c2 : Nat) (h : St2 w X A c l A2 c2 q), Calls Tryd.prog 13 #[.slice A i c, .slice A2 i c2] X fun e w' => e = .returned (.bool true) ∧ Below X.heap.size X w') := Lib.hid fun X A A2 c c2 h => by
            have := RSame_any h.rr1 h.rr2 hm hQl
            rwa [decide_eq_true hkern.symm] at this
          have HAt := Lib.hid (fun (j : Nat) (h : j < i) => hAt j (by omega))
          have HMay := Lib.hid (fun (j : Nat) (h : j < i) => may_at' (hMay (l.getD j r0) (getD_mem (by omega))).1)
          have HM := Lib.hid hm
          have HQ := Lib.hid hQl
          clear hWide hw hQl hkern hAt hWl hl htk htw OL OQ hMay hEnd hPl ht w0 h256 hml hm hN hn hi him hn8 hmN hKN hNW
          generalize strOf Wd = S4 at *
          generalize strOf (s.take N ++ List.replicate n 32) = S3 at *
          generalize strOf (List.replicate n 32) = S2 at *
          generalize strOf (s.take N) = S1 at *
          generalize strOf (s.drop N) = S5 at *
          generalize strOf s = SA at *
          go_enter Tryd.func5, Tryd.ntmps5
          go_wp2_with (go_at_call 12; (with_reducible refine (C1.out).mono ?_); rintro e v1 ⟨A, c, rfl, h1⟩; have H1 := Lib.hid h1; clear h1)
          replace H1 := Lib.hid (show St1 w v1.drew A c l from H1.out.step (bdrew (b0 _) 1))
          go_region_held3 (fun _ => True) (go_keep) (first | (go_at_call 14; (with_reducible refine (CR.out _).mono ?_); rintro e u1 ⟨rfl, b⟩; replace H1 := Lib.hid (H1.out.step b); clear b))
          all_goals
            go_wp2_with (first
              | (go_at_call 12; (with_reducible refine (C3.out _ _ _ H1.out).mono ?_); rintro e v3 ⟨A2, d2, rfl, h1⟩; have H3 := Lib.hid h1; clear h1)
              | (go_at_call 13; (with_reducible refine (C5.out _ _ _ _ _ H3.out).mono ?_); rintro e v5 ⟨rfl, b⟩; have H5 := Lib.hid (H3.out.step b); clear b))
            clear H1 H3 C1 C3 C5 CR
            go_loopw [102] (fun v wr => ∃ j : Nat, j ≤ i ∧ v = .int .i64 j ∧ Hid (St2 w wr A c l A2 d2 q)) (fun v _ => i - (intOf v).toNat)
            case atStart => exact ⟨0, Nat.zero_le _, rfl, H5⟩
            case round =>
              obtain ⟨j, hj, rfl, H⟩ := hrel
              have hj0 : (0 : Int) ≤ (j : Int) := by omega
              by_cases hlt : (j : Int) < (i : Int)
              · obtain ⟨ad1, e1, K1c⟩ := H.out.rr1.rd j (by have := HM.out; omega)
                obtain ⟨ad2, e2, K2c⟩ := H.out.rr2.rd j (by have := HQ.out; omega)
                cases e1
                cases e2
                have hat := HAt.out j (by omega)
                have ha := HMay.out j (by omega)
                have HJ := Lib.hid (fun (Y : World) (b : Below wr.heap.size wr Y) => H.out.step b)
                by_cases hji : (j : Int) < (i : Int)
                · rw [if_pos (by omega)] at hat
                  rw [hat] at K2c
                  clear hat HAt HMay
                  generalize l.getD j r0 = x at *
                  unfold RwAt at K1c K2c
                  obtain ⟨xk, xa, xt, xn⟩ := x
                  dsimp only at *
                  generalize strOf xt = S at *
                  obtain ⟨f0, f1, f2, f3⟩ := K1c
                  obtain ⟨g0, g1, g2, g3⟩ := K2c
                  obtain ⟨ha0, ha1⟩ := ha
                  have q1 : decide (j < i) = true := decide_eq_true (by omega)
                  have q2 : decide (i ≤ j) = false := decide_eq_false (by omega)
                  go_wp2_with fail
                  go_quiet (fail)
                  have HB := Lib.hid (HJ.out _ (bdrew (b0 wr) nq))
                  clear H HJ f0 f1 f2 f3 g0 g1 g2 g3 q1 q2
                  generalize wr.drewN nq = W at *
                  go_wp2
                  go_roundw
                  case rel => exact ⟨j + 1, by omega, by go_num, HB⟩
                  case measure => simp [intOf]; omega
                · exact absurd hlt (by omega)
              · obtain rfl : j = i := by omega
                clear HAt HMay HQ
                go_wp2_with (go_at_call 9; (with_reducible refine (CA.out _ H.out.tab).mono ?_); rintro e v6 ⟨rfl, b⟩; have HB := Lib.hid (blw H.out.1.1 b); clear b)
                go_ret
                exact ⟨rfl, HB.out⟩
end Go.Proofs.YtldnmdadlgjbgaaDoor
