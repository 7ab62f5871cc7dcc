/- The reference's rows of a text. -/
import Derived.Test.YtkhmpmjonkmbeaaDoorRfc
set_option linter.unusedVariables false
set_option linter.unusedSimpArgs false
namespace Go.Proofs.YtkhmpmjonkmbeaaDoor
open Go Go.RowKit L7

/-- What Rows gives: rows of the call's own, the line, the error. -/
def GivesR (w : World) (s : Bs) (e : Ending) (w' : World) : Prop :=
  ∃ A c, e = .returned (.tuple #[.slice A (rows s).1.length c, .int .i64 (rows s).2.1, .int .i64 (rows s).2.2]) ∧ OwnR w' 38 w.heap.size A (rows s).1.length c (rows s).1 ∧ Below w.heap.size w w'
theorem givesR_err {w w' : World} {s : Bs} {n e : Int} (h : rows s = ([], n, e)) (hb : Below w.heap.size w w') : GivesR w s (.returned (.tuple #[.slice none 0 0, .int .i64 n, .int .i64 e])) w' := by
  refine ⟨none, 0, ?_, ?_, hb⟩
  · rw [h]; rfl
  · rw [h]; exact ownR_nil w' _ _
theorem givesR_ok {w w' : World} {s : Bs} {A : Option Addr} {m c : Nat} {l : List Rw} (h : rows s = (l, 0, 0)) (ho : OwnR w' 38 w.heap.size A m c l) (hb : Below w.heap.size w w') : GivesR w s (.returned (.tuple #[.slice A m c, .int .i64 0, .int .i64 0])) w' := by
  obtain rfl := ho.len
  refine ⟨A, c, ?_, ?_, hb⟩
  · rw [h]
  · rw [h]; exact ho
/-- The answer that rows, or an error, make. -/
def ansR : Except (Nat × Int) (List Rw) → List Rw × Int × Int
  | .error (n, e) => ([], (n : Int), e)
  | .ok l => (l, 0, 0)
theorem rows_of {s : Bs} (h : s.length ≤ 65536) (hb : badLine (lnsOf s) = none) {R : Except (Nat × Int) (List Rw)} (hR : rowsOf (-1) 0 (itemsOf (lnsOf s) 1) = R) : rows s = ansR R := by
  unfold rows
  rw [if_neg (by omega), hb]
  dsimp only
  rw [hR]
  cases R with
  | error p => rfl
  | ok l => rfl
theorem rows_bad {s : Bs} (h : s.length ≤ 65536) {k : Nat} (hb : badLine (lnsOf s) = some k) : rows s = ([], (k : Int) + 1, 5) := by
  unfold rows
  rw [if_neg (by omega), hb]
theorem bad_at {ls : List Bs} {k : Nat} (hk : k < ls.length) (h : ∀ j, j < k → (ls.getD j []).all plainB = true) (hb : (ls.getD k []).all plainB = false) : badLine ls = some k := by
  unfold badLine
  rw [List.findIdx?_eq_some_iff_getElem]
  have e : ∀ j (hj : j < ls.length), ls[j] = ls.getD j [] := fun j hj => by simp [hj]
  refine ⟨hk, by rw [e, hb]; rfl, fun j hj => ?_⟩
  rw [e, h j hj]
  decide
theorem bad_none {ls : List Bs} (h : ∀ j, j < ls.length → (ls.getD j []).all plainB = true) : badLine ls = none := by
  unfold badLine
  rw [List.findIdx?_eq_none_iff]
  intro l hl
  obtain ⟨j, hj, rfl⟩ := List.getElem_of_mem hl
  have := h j hj
  have e : ls.getD j [] = ls[j] := by simp [hj]
  rw [e] at this
  rw [this]; rfl
/-- What is known at the head of the loop over the logical lines. -/
def LoopR (w : World) (B : Nat) (wr : World) (ls : List Bs) (R0 : Except (Nat × Int) (List Rw)) (A : Option Addr) (m c p : Nat) (b : Int) : Prop :=
  Below w.heap.size w wr ∧ ∃ out : List Rw, OwnR wr 38 B A m c out ∧ OKL out ∧ R0 = addE out (rowsOf b m (itemsOf (ls.drop p) (p + 1))) ∧ (p < ls.length → (cutL (ls.getD p [])).2.isEmpty = false)
/-- And within a logical line. -/
def GlueR (ls : List Bs) (i p q : Nat) (t u : Bs) : Prop :=
  glue i (p + 1) t (itemsOf (ls.drop (p + 1)) (p + 2)) = glue i (q + 1) u (itemsOf (ls.drop (q + 1)) (q + 2)) ∧ u.length ≤ wgt ls (q + 1)
theorem glueR_start {ls : List Bs} {p : Nat} (hp : p < ls.length) : GlueR ls (cutL (ls.getD p [])).1 p p (cutL (ls.getD p [])).2 (cutL (ls.getD p [])).2 := by
  refine ⟨rfl, ?_⟩
  have := (cut_le (ls.getD p [])).2
  have := wgt_succ hp
  omega
theorem glueR_end {ls : List Bs} {i p q : Nat} {t u : Bs} (hq : q < ls.length) (h : GlueR ls i p q t u) (hc : conts u = true) (hn : nx ls (q + 1) = ls.length) : glue i (p + 1) t (itemsOf (ls.drop (p + 1)) (p + 2)) = .error (q + 1, 5) := by
  rw [h.1, glue_skip (by omega), hn, items_end (Nat.le_refl _), glue_end hc]
theorem glueR_bad {ls : List Bs} {i p q z : Nat} {t u : Bs} (hq : q < ls.length) (h : GlueR ls i p q t u) (hc : conts u = true) (hn : nx ls (q + 1) = z) (hz : z < ls.length) (hi : (cutL (ls.getD z [])).1 < i) : glue i (p + 1) t (itemsOf (ls.drop (p + 1)) (p + 2)) = .error (z + 1, 70) := by
  have he := (nx_all (ls := ls) (ls.length - (q + 1)) (q + 1) (by omega)).1
  rw [hn] at he
  rw [h.1, glue_skip (by omega), hn, items_here hz (he hz), glue_bad hc hi]
theorem glueR_next {ls : List Bs} {i p q z : Nat} {t u : Bs} (hq : q < ls.length) (h : GlueR ls i p q t u) (hc : conts u = true) (hn : nx ls (q + 1) = z) (hz : z < ls.length) (hi : ¬ (cutL (ls.getD z [])).1 < i) : GlueR ls i p z t (u ++ 32 :: (cutL (ls.getD z [])).2) := by
  have he := (nx_all (ls := ls) (ls.length - (q + 1)) (q + 1) (by omega)).1
  rw [hn] at he
  refine ⟨?_, ?_⟩
  · rw [h.1, glue_skip (by omega), hn, items_here hz (he hz), glue_go hc hi]
  · have h1 := h.2
    have h2 := (cut_le (ls.getD z [])).2
    have h3 := wgt_succ hz
    have h4 := wgt_mono (ls := ls) (show q + 1 ≤ z by have := nx_ge ls (q + 1); omega)
    simp only [List.length_append, List.length_cons]
    omega
theorem glueR_done {ls : List Bs} {i p q : Nat} {t u : Bs} (h : GlueR ls i p q t u) (hc : conts u = false) : glue i (p + 1) t (itemsOf (ls.drop (p + 1)) (p + 2)) = .ok (u, itemsOf (ls.drop (q + 1)) (q + 2)) := by
  rw [h.1, glue_no hc]
set_option maxRecDepth 100000 in
set_option maxHeartbeats 16000000 in
theorem RRows_any (s : Bs) (hs : s.length ≤ 65536) (w : World) : Calls Tryd.prog 11 #[.string (strOf s)] w (GivesR w s) := by
  have hsz := size_strOf s
  obtain ⟨n, hn⟩ : ∃ n, s.length = n := ⟨_, rfl⟩
  have CL := Lib.hid (RLines_any s (by omega) w)
  have HT := Lib.hid (fun (i : Nat) => wgt_all s i)
  have HB := Lib.hid (fun (h : badLine (lnsOf s) = none) (R : Except (Nat × Int) (List Rw)) (hR : rowsOf (-1) 0 (itemsOf (lnsOf s) 1) = R) => rows_of hs h hR)
  have HX := Lib.hid (fun (k : Nat) (h : badLine (lnsOf s) = some k) => rows_bad hs h)
  have hll : ∀ k, ((lnsOf s).getD k []).length ≤ 100000 := fun k => Nat.le_trans (lns_le s k) (by omega)
  have hl1 := (lns_len s).2
  have hl2 := (lns_len s).1
  rw [hn] at hsz hs hl1
  rw [hn] at HT
  generalize lnsOf s = ls at *
  obtain ⟨N, hN⟩ : ∃ N, ls.length = N := ⟨_, rfl⟩
  have HN := Lib.hid hN
  have CP := Lib.hid (fun (k : Nat) (W : World) => Rplain_any (ls.getD k []) (by have := hll k; unfold maxLen; omega) W)
  have CC := Lib.hid (fun (k : Nat) (W : World) => RCut_any (ls.getD k []) (hll k) W)
  have CN := Lib.hid (fun (A : Option Addr) (c i : Nat) (hi : i ≤ N) (W : World) (R : SS W A c ls) => Rnext_any R hN hi (by omega) hll)
  have CT := Lib.hid (fun (u : Bs) (hu : u.length ≤ 1000000) (W : World) => RConts_any u (by unfold maxLen; omega) W)
  have HLL := Lib.hid hll
  rw [hN] at CL hl1 hl2
  clear hn hN hll
  go_enter Tryd.func11, Tryd.ntmps11
  go_wp2_with (go_at_call 31; refine CL.out.mono ?_; rintro e w1 ⟨As, cs, rfl, os, b1⟩; have H1 := Lib.hid (And.intro b1 os); clear b1 os)
  have hl3 : N ≤ 65537 := by omega
  clear hl1
  go_loopw [6] (fun i wr => ∃ k : Nat, k ≤ N ∧ i = .int .i64 k ∧ w1 = wr ∧ Hid (∀ j, j < k → (ls.getD j []).all plainB = true)) (fun i _ => N - (intOf i).toNat)
  case atStart => exact ⟨0, Nat.zero_le _, rfl, rfl, Lib.hid (fun j hj => absurd hj (by omega))⟩
  case round =>
    obtain ⟨k, hk, rfl, rfl, H⟩ := hrel
    have hk0 : (0 : Int) ≤ (k : Int) := by omega
    by_cases hlt : (k : Int) < (N : Int)
    · obtain ⟨ad, rfl, c0⟩ := H1.out.2.ss.rd k (by have := HN.out; omega)
      have C := Lib.hid (CP.out k)
      cases hv : (ls.getD k []).all plainB with
      | true =>
        rw [hv] at C
        have HY := Lib.hid (show ∀ j, j < k + 1 → (ls.getD j []).all plainB = true from fun j hj => if h : j < k then H.out j h else by rw [show j = k by omega]; exact hv)
        clear hv H
        generalize ls.getD k [] = l at *
        go_wp2_with (go_at_call 32; refine (C.out _).mono ?_; rintro e w2 ⟨rfl, rfl⟩)
        go_roundw
        case rel => exact ⟨k + 1, by omega, by go_num, trivial, HY⟩
        case measure => simp [intOf]; omega
      | false =>
        rw [hv] at C
        have HY := Lib.hid (HX.out k (bad_at (by have := HN.out; omega) H.out hv))
        clear hv H
        generalize ls.getD k [] = l at *
        go_wp2_with (go_at_call 32; refine (C.out _).mono ?_; rintro e w2 ⟨rfl, rfl⟩)
        go_ret3
        exact givesR_err HY.out H1.out.1
    · obtain rfl : k = N := by omega
      have hbn := bad_none (ls := ls) (by rw [HN.out]; exact H.out)
      obtain ⟨R0, hR0⟩ : ∃ R0, rowsOf (-1) 0 (itemsOf ls 1) = R0 := ⟨_, rfl⟩
      have HR0 := Lib.hid (HB.out hbn R0 hR0)
      have HS0 := Lib.hid (show R0 = addE [] (rowsOf (-1) 0 (itemsOf (ls.drop (nx ls 0)) (nx ls 0 + 1))) by
        rw [addE_nil, ← hR0]
        have := (nx_all (ls := ls) ls.length 0 (by omega)).2
        rw [List.drop_zero] at this
        rw [← this])
      have HN0 := Lib.hid ((nx_all (ls := ls) ls.length 0 (by omega)).1)
      have hz0 : nx ls 0 ≤ k := by have := nx_le (ls := ls) (i := 0) (by omega); rwa [HN.out] at this
      have C0 := Lib.hid (CN.out As cs 0 (by omega) w1 H1.out.2.ss)
      clear H hbn hR0 HB HX
      generalize nx ls 0 = z0 at *
      have e0 : (((0 : Nat) : Int)) = 0 := rfl
      rw [e0] at C0
      go_wp2_with (go_at_call 33; refine C0.out.mono ?_; rintro e w2 ⟨rfl, b2⟩; have H2 := Lib.hid (And.intro (blw H1.out.1 b2) (H1.out.2.keep b2)); clear b2)
      clear H1 C0 e0
      go_loopw [7, 8, 9] (fun v bf i wr => ∃ m c p : Nat, ∃ A, ∃ b : Int, p ≤ k ∧ m ≤ 2048 ∧ -1 ≤ b ∧ b ≤ 100000 ∧ v = .slice A m c ∧ bf = .int .i64 b ∧ i = .int .i64 p ∧ Hid (Below w2.heap.size w2 wr ∧ LoopR w w2.heap.size wr ls R0 A m c p b)) (fun _ _ i _ => k - (intOf i).toNat)
      case atStart => exact ⟨0, 0, z0, none, -1, hz0, by omega, by omega, by omega, rfl, rfl, rfl, Lib.hid ⟨b0 w2, H2.out.1, [], ownR_nil _ _ _, OKL.nil, HS0.out, HN0.out⟩⟩
      case round =>
        obtain ⟨m, c, p, A, b, hp, hm2, hb1, hb2, rfl, rfl, rfl, H⟩ := hrel
        have hp0 : (0 : Int) ≤ (p : Int) := by omega
        generalize wr = W1 at *
        by_cases hlt2 : (p : Int) < (k : Int)
        · obtain ⟨ad, rfl, c0⟩ := (H2.out.2.keep H.out.1).ss.rd p (by have := HN.out; omega)
          have C := Lib.hid (CC.out p)
          have HIt := Lib.hid (show itemsOf (ls.drop p) (p + 1) = (p + 1, (cutL (ls.getD p [])).1, (cutL (ls.getD p [])).2) :: itemsOf (ls.drop (p + 1)) (p + 2) by
            obtain ⟨_, _, _, _, _, h⟩ := H.out.2
            exact items_here (by have := HN.out; omega) (h (by have := HN.out; omega)) (p + 1))
          have HG0 := Lib.hid (glueR_start (ls := ls) (p := p) (by have := HN.out; omega))
          have hi1 : (cutL (ls.getD p [])).1 ≤ 100000 := Nat.le_trans (cut_le _).1 (HLL.out p)
          generalize ls.getD p [] = l at *
          generalize ha : cutL l = ct at *
          obtain ⟨ind, t⟩ := ct
          dsimp only at *
          clear ha
          have hi0 : (0 : Int) ≤ (ind : Int) := by omega
          by_cases hbad : (ind : Int) % 2 = 1 ∨ b + 1 < (ind : Int) / 2
          · have HE := Lib.hid (show rows s = ([], ((p + 1 : Nat) : Int), 70) by
              obtain ⟨_, out, _, _, h2, _⟩ := H.out.2
              rw [HR0.out, h2, HIt.out, rowsOf_bad (by omega)]
              rfl)
            have HB2 := Lib.hid H.out.2.1
            clear H HIt HG0
            by_cases h1 : (ind : Int) % 2 = 1
            · have q1 : (((ind : Int) % 2) == 1) = true := by simpa using h1
              clear hbad h1
              go_wp2_with (go_at_call 34; refine (C.out _).mono ?_; rintro e w3 ⟨rfl, b3⟩; have B3 := Lib.hid (blw HB2.out b3); clear b3)
              go_ret3
              exact givesR_err HE.out B3.out
            · have q1 : (((ind : Int) % 2) == 1) = false := by simpa using h1
              have q2 : b + 1 < (ind : Int) / 2 := hbad.resolve_left h1
              clear hbad h1
              go_wp2_with (go_at_call 34; refine (C.out _).mono ?_; rintro e w3 ⟨rfl, b3⟩; have B3 := Lib.hid (blw HB2.out b3); clear b3)
              go_ret3
              exact givesR_err HE.out B3.out
          · have q1 : (((ind : Int) % 2) == 1) = false := by
              rw [not_or] at hbad
              simpa using hbad.1
            have q2 : decide (b + 1 < (ind : Int) / 2) = false := decide_eq_false (fun h => hbad (.inr h))
            have HNB := Lib.hid (show ¬ (ind % 2 = 1 ∨ b + 1 < ((ind / 2 : Nat) : Int)) by omega)
            clear hbad
            have HW := Lib.hid (fun (w3 : World) (b3 : Below W1.heap.size W1 w3) => show Below w2.heap.size w2 w3 ∧ LoopR w w2.heap.size w3 ls R0 A m c p b from ⟨blw H.out.1 b3, by
              obtain ⟨g1, out, g2, g3⟩ := H.out.2
              exact ⟨blw g1 b3, out, g2.keep b3, g3⟩⟩)
            go_wp2_with (go_at_call 34; refine (C.out _).mono ?_; rintro e w3 ⟨rfl, b3⟩; have H3 := Lib.hid (HW.out _ b3); clear b3)
            clear H HW C c0
            go_loopw [9, 12] (fun qf uf wr => ∃ q : Nat, ∃ u : Bs, p ≤ q ∧ q < k ∧ u.length ≤ 65537 ∧ qf = .int .i64 q ∧ uf = .string (strOf u) ∧ Hid ((Below w2.heap.size w2 wr ∧ LoopR w w2.heap.size wr ls R0 A m c p b) ∧ GlueR ls ind p q t u)) (fun qf _ _ => k - (intOf qf).toNat)
            case atStart =>
              have h1 := HG0.out.2
              have h2 := HT.out (p + 1)
              exact ⟨p, t, Nat.le_refl _, by omega, by omega, rfl, rfl, Lib.hid ⟨H3.out, HG0.out⟩⟩
            case round =>
              obtain ⟨q, u, hpq, hqk, hul, rfl, rfl, G⟩ := hrel
              have hq0 : (0 : Int) ≤ (q : Int) := by omega
              have Ct := Lib.hid (CT.out u (by omega))
              generalize wr = W2 at *
              have eq1 : ((q + 1 : Nat) : Int) = (q : Int) + 1 := by omega
              cases hc : conts u with
              | true =>
                rw [hc] at Ct
                have Cn := Lib.hid (fun (W3 : World) (b4 : Below W2.heap.size W2 W3) => CN.out (some ad) cs (q + 1) (by omega) W3 ((H2.out.2.keep (blw G.out.1.1 b4)).ss))
                have hzk : nx ls (q + 1) ≤ k := by have := nx_le (ls := ls) (i := q + 1) (by have := HN.out; omega); rwa [HN.out] at this
                have hzq := nx_ge ls (q + 1)
                obtain ⟨z, hz⟩ : ∃ z, nx ls (q + 1) = z := ⟨_, rfl⟩
                rw [hz] at Cn hzk hzq
                rw [eq1] at Cn
                have HZ := Lib.hid hz
                have HC := Lib.hid hc
                clear hz hc
                by_cases hzk2 : z = k
                · subst hzk2
                  have HE := Lib.hid (show rows s = ([], ((q + 1 : Nat) : Int), 5) by
                    obtain ⟨_, out, _, _, h2, _⟩ := G.out.1.2
                    rw [HR0.out, h2, HIt.out, rowsOf_err HNB.out (glueR_end (by have := HN.out; omega) G.out.2 HC.out (HZ.out.trans HN.out.symm))]
                    rfl)
                  have HB2 := Lib.hid G.out.1.2.1
                  go_wp2_with (first
                    | (go_at_call 35; refine (Ct.out _).mono ?_; rintro e w4 ⟨rfl, b4⟩; have B4 := Lib.hid b4; clear b4)
                    | (go_at_call 33; refine (Cn.out _ B4.out).mono ?_; rintro e w5 ⟨rfl, b5⟩; have B5 := Lib.hid (blw B4.out b5); clear b5))
                  go_ret3
                  exact givesR_err HE.out (blw HB2.out B5.out)
                · have hzk3 : z < k := by omega
                  have qz : ((z : Int) == (z : Int)) = true := by simp
                  have qk : ((z : Int) == (k : Int)) = false := by simp; omega
                  have hz0 : (0 : Int) ≤ (z : Int) := by omega
                  have Cc := Lib.hid (CC.out z)
                  have hlz := (cut_le (ls.getD z [])).2
                  have HBd := Lib.hid (fun h => glueR_bad (z := z) (by have := HN.out; omega) G.out.2 HC.out HZ.out (by have := HN.out; omega) h)
                  have HNx := Lib.hid (fun h => glueR_next (z := z) (by have := HN.out; omega) G.out.2 HC.out HZ.out (by have := HN.out; omega) h)
                  have c9 := Lib.hid (fun (W3 : World) (b4 : Below W2.heap.size W2 W3) => ((H2.out.2.keep (blw G.out.1.1 b4)).ss).rd z (by have := HN.out; omega))
                  have hlz2 := HLL.out z
                  generalize ls.getD z [] = y at *
                  generalize hy : cutL y = ct at *
                  obtain ⟨nn, mo⟩ := ct
                  dsimp only at *
                  clear hy
                  by_cases hnn : (nn : Int) < (ind : Int)
                  · have HE := Lib.hid (show rows s = ([], ((z + 1 : Nat) : Int), 70) by
                      obtain ⟨_, out, _, _, h2, _⟩ := G.out.1.2
                      rw [HR0.out, h2, HIt.out, rowsOf_err HNB.out (HBd.out (by omega))]
                      rfl)
                    have HB2 := Lib.hid G.out.1.2.1
                    clear HBd HNx
                    go_wp2_with (first
                      | (go_at_call 35; refine (Ct.out _).mono ?_; rintro e w4 ⟨rfl, b4⟩; have B4 := Lib.hid b4; clear b4)
                      | (go_at_call 33; refine (Cn.out _ B4.out).mono ?_; rintro e w5 ⟨rfl, b5⟩; have B5 := Lib.hid (blw B4.out b5); clear b5; obtain ⟨ad9, e9, c8⟩ := c9.out _ B5.out; cases e9)
                      | (go_at_call 34; refine (Cc.out _).mono ?_; rintro e w6 ⟨rfl, b6⟩; have B6 := Lib.hid (blw B5.out b6); clear b6))
                    go_ret3
                    exact givesR_err HE.out (blw HB2.out B6.out)
                  · have HE := Lib.hid (HNx.out (by omega))
                    have hlen : (u ++ 32 :: mo).length ≤ 65537 := by
                      have h1 := HE.out.2
                      have h2 := HT.out (z + 1)
                      omega
                    have hcat1 := cat_str u [32] (by simp; omega)
                    have hcat1' : Op.stringOp .add (strOf u) ⟨#[32]⟩ = pure (.string (strOf (u ++ [32]))) := hcat1
                    have hcat2 := cat_str (u ++ [32]) mo (by simp; omega)
                    rw [List.append_assoc, List.singleton_append] at hcat2
                    have HK := Lib.hid (fun (W3 : World) (b4 : Below W2.heap.size W2 W3) => show Below w2.heap.size w2 W3 ∧ LoopR w w2.heap.size W3 ls R0 A m c p b from ⟨blw G.out.1.1 b4, by
                      obtain ⟨g1, out, g2, g3⟩ := G.out.1.2
                      exact ⟨blw g1 b4, out, g2.keep b4, g3⟩⟩)
                    clear hcat1 HBd HNx
                    generalize hu2 : u ++ 32 :: mo = u2 at *
                    generalize strOf (u ++ [32]) = U1 at *
                    go_wp2_with (first
                      | (go_at_call 35; refine (Ct.out _).mono ?_; rintro e w4 ⟨rfl, b4⟩; have B4 := Lib.hid b4; clear b4)
                      | (go_at_call 33; refine (Cn.out _ B4.out).mono ?_; rintro e w5 ⟨rfl, b5⟩; have B5 := Lib.hid (blw B4.out b5); clear b5; obtain ⟨ad9, e9, c8⟩ := c9.out _ B5.out; cases e9)
                      | (go_at_call 34; refine (Cc.out _).mono ?_; rintro e w6 ⟨rfl, b6⟩; have B6 := Lib.hid (HK.out _ (blw B5.out b6)); clear b6))
                    go_roundw
                    case rel => exact ⟨z, u2, by omega, hzk3, hlen, rfl, rfl, Lib.hid ⟨B6.out, HE.out⟩⟩
                    case measure => simp [intOf]; omega
              | false =>
                rw [hc] at Ct
                have HD := Lib.hid (glueR_done G.out.2 hc)
                clear hc
                have hsu := size_strOf u
                obtain ⟨ul, hul2⟩ : ∃ ul, u.length = ul := ⟨_, rfl⟩
                rw [hul2] at hsu hul
                have HUL := Lib.hid hul2
                clear hul2
                by_cases hlim : 32 < (ind : Int) / 2 ∨ (256 : Int) < (ul : Int) ∨ m = 2048
                · have HE := Lib.hid (show rows s = ([], ((p + 1 : Nat) : Int), 3) by
                    obtain ⟨_, out, _, _, h2, _⟩ := G.out.1.2
                    rw [HR0.out, h2, HIt.out, rowsOf_long HNB.out HD.out (by rw [HUL.out]; omega)]
                    rfl)
                  have HB2 := Lib.hid G.out.1.2.1
                  have key : (decide (32 < (ind : Int) / 2) = true) ∨ (decide (32 < (ind : Int) / 2) = false ∧ (256 : Int) < (ul : Int)) ∨ (decide (32 < (ind : Int) / 2) = false ∧ ¬ (256 : Int) < (ul : Int) ∧ ((m : Int) == 2048) = true) := by
                    by_cases h1 : 32 < (ind : Int) / 2
                    · exact .inl (decide_eq_true h1)
                    · by_cases h2 : (256 : Int) < (ul : Int)
                      · exact .inr (.inl ⟨decide_eq_false h1, h2⟩)
                      · exact .inr (.inr ⟨decide_eq_false h1, h2, by simp; omega⟩)
                  clear hlim
                  rcases key with q3 | ⟨q3, q4⟩ | ⟨q3, q4, q5⟩
                  all_goals
                    go_wp2_with (go_at_call 35; refine (Ct.out _).mono ?_; rintro e w4 ⟨rfl, b4⟩; have B4 := Lib.hid (blw HB2.out b4); clear b4)
                    go_ret3
                    exact givesR_err HE.out B4.out
                · have q3 : decide (32 < (ind : Int) / 2) = false := decide_eq_false (fun h => hlim (.inl h))
                  have q4 : ¬ (256 : Int) < (ul : Int) := fun h => hlim (.inr (.inl h))
                  have q5 : ((m : Int) == 2048) = false := by
                    have : ¬ m = 2048 := fun h => hlim (.inr (.inr h))
                    simp; omega
                  have hm3 : m + 1 ≤ 2048 := by
                    have : ¬ m = 2048 := fun h => hlim (.inr (.inr h))
                    omega
                  obtain ⟨x, hx⟩ : ∃ x : Rw, x = ⟨((p + 1 : Nat) : Int), ((ind / 2 : Nat) : Int), u⟩ := ⟨_, rfl⟩
                  have hx2 : x = ⟨(p : Int) + 1, (ind : Int) / 2, u⟩ := by rw [hx]; congr 1
                  have hokx : OKx x := by rw [hx]; show u.length ≤ maxLen; rw [HUL.out]; unfold maxLen; omega
                  obtain ⟨g1, out, g2, g2k, g3, _⟩ := G.out.1.2
                  have HA := Lib.hid (show R0 = addE (out ++ [x]) (rowsOf ((ind / 2 : Nat) : Int) (m + 1) (itemsOf (ls.drop (nx ls (q + 1))) (nx ls (q + 1) + 1))) by
                    rw [g3, HIt.out, rowsOf_add HNB.out HD.out (by rw [HUL.out]; omega), ← hx, (nx_all (ls := ls) (k - (q + 1)) (q + 1) (by have := HN.out; omega)).2])
                  have HZn := Lib.hid ((nx_all (ls := ls) (k - (q + 1)) (q + 1) (by have := HN.out; omega)).1)
                  have hzk : nx ls (q + 1) ≤ k := by have := nx_le (ls := ls) (i := q + 1) (by have := HN.out; omega); rwa [HN.out] at this
                  have hzq := nx_ge ls (q + 1)
                  have HOw := Lib.hid (And.intro g2 (And.intro (OKL.app g2k (OKL.one hokx)) hokx))
                  have Cn := Lib.hid (fun (W3 : World) (b4 : Below w2.heap.size w2 W3) => CN.out (some ad) cs (q + 1) (by omega) W3 ((H2.out.2.keep b4).ss))
                  have HB2 := Lib.hid G.out.1.1
                  rw [eq1] at Cn
                  rw [hx2] at HOw HA
                  have e2 : ((ind / 2 : Nat) : Int) = (ind : Int) / 2 := rfl
                  have hi3 : (ind : Int) / 2 ≤ 32 := by have := of_decide_eq_false q3; omega
                  have hi4 : 0 ≤ (ind : Int) / 2 := by omega
                  rw [e2] at HA
                  clear hlim hx hx2 hokx g1 g2 g2k g3 x e2 G
                  generalize nx ls (q + 1) = z at *
                  have rone : ∀ W : World, RR (W.alloc (.cells #[.int .i64 ((p : Int) + 1), .int .i64 ((ind : Int) / 2), .string (strOf u)] 38)) (some ⟨W.heap.size, 0, none⟩) 1 [⟨(p : Int) + 1, (ind : Int) / 2, u⟩] := fun W => rr_one (x := ⟨(p : Int) + 1, (ind : Int) / 2, u⟩) HOw.out.2.2 (boxS_new W _ _)
                  have HR1 := Lib.hid rone
                  clear rone
                  go_wp2_with (first
                    | (go_at_call 35; refine (Ct.out _).mono ?_; rintro e w4 ⟨rfl, b4⟩; have B4 := Lib.hid (And.intro (blw HB2.out b4) (HOw.out.1.keep b4)); clear b4)
                    | (at_builtin; (refine app_rws rfl (.tmp 112) (.tmp 117) rfl w2.heap.size m c 1 1 (m + 1) A (some ⟨w4.heap.size, 0, none⟩) out [⟨(p : Int) + 1, (ind : Int) / 2, u⟩] rfl rfl (own_keepB B4.out.2 (bal (b0 w4) _)) rfl (HR1.out w4) rfl (by omega) (bal B4.out.1 _).size ?_; intro A2 c2 w5 o2 g2; have H5 := Lib.hid (And.intro (bgrow (bal B4.out.1 _) (own_keepB B4.out.2 (bal (b0 w4) _)) (Nat.le_refl _) g2) o2); clear o2 g2))
                    | (go_at_call 33; refine (Cn.out _ H5.out.1).mono ?_; rintro e w6 ⟨rfl, b6⟩; have H6 := Lib.hid (And.intro (blw H5.out.1 b6) (H5.out.2.keep b6)); clear b6))
                  go_roundw
                  case rel =>
                    refine ⟨m + 1, c2, z, A2, (ind : Int) / 2, hzk, hm3, by omega, by omega, rfl, rfl, rfl, Lib.hid ⟨H6.out.1, blw H2.out.1 H6.out.1, out ++ [⟨(p : Int) + 1, (ind : Int) / 2, u⟩], H6.out.2, HOw.out.2.1, HA.out, HZn.out⟩⟩
                  case measure => simp [intOf]; omega
        · obtain rfl : p = k := by omega
          have HE := Lib.hid (show LoopR w w2.heap.size W1 ls R0 A m c p b from H.out.2)
          clear H
          go_wp2
          go_ret3
          obtain ⟨g1, out, g2, _, g3, _⟩ := HE.out
          refine givesR_ok ?_ (g2.base H2.out.1.size) g1
          rw [HR0.out, g3, items_end (by rw [HN.out]; exact Nat.le_refl _), rowsOf_nil]
          simp [addE, ansR]
end Go.Proofs.YtkhmpmjonkmbeaaDoor
