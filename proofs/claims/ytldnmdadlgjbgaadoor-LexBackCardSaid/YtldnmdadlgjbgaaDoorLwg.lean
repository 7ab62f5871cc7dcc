/- LexBack: its walk. -/
import Derived.Test.YtldnmdadlgjbgaaDoorGood
import Derived.Test.YtldnmdadlgjbgaaDoorLwe
set_option linter.unusedVariables false
set_option linter.unusedSimpArgs false
namespace Go.Proofs.YtldnmdadlgjbgaaDoor
open Go Go.RowKit L8

/-- Behind which place token j has to begin. -/
def nx (p : Int) (l : List Tk) : Nat → Int
  | 0 => p
  | j + 1 => (l.getD j r0).a + 1
theorem inc_at : ∀ (l : List Tk) (p : Int), Inc p l → ∀ j, j < l.length → nx p l j ≤ (l.getD j r0).a
  | [], _, _, j, h => absurd h (by simp)
  | t :: r, p, h, 0, _ => h.1
  | t :: r, p, h, j + 1, hj => by
    have := inc_at r (t.a + 1) h.2 j (by simpa using hj)
    cases j with
    | zero => simpa [nx] using this
    | succ i => simpa [nx] using this
theorem kept_at (l : List Tk) (k : Nat) (h : k < l.length) : (l.take (k + 1)).filter may = (l.take k).filter may ++ (if may (l.getD k r0) = true then [l.getD k r0] else []) := by
  rw [List.take_succ_eq_append_getElem h, List.filter_append]
  have e : l.getD k r0 = l[k] := by simp [h]
  rw [e]
  cases hm : may l[k] <;> simp [hm]
def Bk (w X : World) (A : Option Addr) (n c : Nat) (o : List Tk) : Prop := Below w.heap.size w X ∧ W1.Tab X ∧ OwnR X 26 w.heap.size A n c o
theorem Bk.step {w X Y : World} {A : Option Addr} {n c : Nat} {o : List Tk} (h : Bk w X A n c o) (b : Below X.heap.size X Y) : Bk w Y A n c o := ⟨blw h.1 b, h.2.1.below b, h.2.2.keep b⟩
theorem Bk.tab {w X : World} {A : Option Addr} {n c : Nat} {o : List Tk} (h : Bk w X A n c o) : W1.Tab X := h.2.1
theorem Bk.app {w X Y : World} {A A2 : Option Addr} {n c c2 : Nat} {o : List Tk} {x : Tk} (h : Bk w X A n c o) (o2 : OwnR Y 26 w.heap.size A2 (n + 1) c2 (o ++ [x])) (g : X.grownBy Y (Value.slice A n c).ownBlock) (ht : W1.Tab w) : Bk w Y A2 (n + 1) c2 (o ++ [x]) := by
  have b := bgrow h.1 h.2.2 (Nat.le_refl _) g
  exact ⟨b, ht.below b, o2⟩
theorem may_at {t : Tk} (h : may t = true) : 0 ≤ t.a ∧ t.a ≤ 255 := ⟨(may_parts h).1, (may_parts h).2.1⟩
set_option maxRecDepth 100000 in
set_option maxHeartbeats 16000000 in
theorem walkLexBack (a0 : Option Addr) (len0 cap0 : Nat) (w : World) (w0 : IsTs8 w a0 len0 cap0) (ht : W1.Tab w) :
    Calls Tryd.prog 3 #[.slice a0 len0 cap0] w fun e w' => e = .returned (.bool true) ∧ Below w.heap.size w w' := by
  obtain ⟨l, hm, R⟩ := w0
  generalize len0 = m at *
  have HR := Lib.hid R
  have HM := Lib.hid hm
  have HTab := Lib.hid ht
  have hmx : m ≤ maxLen := by have := R.le; have := R.mx; omega
  unfold maxLen at hmx
  have CA := Lib.hid (fun (W : World) (h : W1.Tab W) => awake_any W h)
  by_cases h300 : (300 : Int) < (m : Int)
  · clear R hm ht
    go_enter Tryd.func3, Tryd.ntmps3
    go_wp2_with (go_at_call 9; (with_reducible refine (CA.out _ HTab.out).mono ?_); rintro e v5 ⟨rfl, b⟩; have HB := Lib.hid b; clear b)
    go_ret
    exact ⟨rfl, HB.out⟩
  · have CM := Lib.hid (fun (k : Nat) (W : World) => May_any (l.getD k r0) (R.ok.get k) W)
    have HI : Hid (Bk w w none 0 0 ((l.take 0).filter may)) := Lib.hid (by rw [List.take_zero]; exact ⟨b0 w, ht, ownR_nil _ _ _⟩)
    clear R hm ht
    go_enter Tryd.func3, Tryd.ntmps3
    go_wp2
    go_loopw [3, 20] (fun v i wr => ∃ k n c : Nat, ∃ A, k ≤ m ∧ n ≤ k ∧ v = .slice A n c ∧ i = .int .i64 k ∧ Hid (Bk w wr A n c ((l.take k).filter may))) (fun _ i _ => m - (intOf i).toNat)
    case atStart => exact ⟨0, 0, 0, none, Nat.zero_le _, Nat.le_refl _, rfl, rfl, HI⟩
    case round =>
      obtain ⟨k, n, c, A, hk, hn, rfl, rfl, H⟩ := hrel
      have hk0 : (0 : Int) ≤ (k : Int) := by omega
      by_cases hlt : (k : Int) < (m : Int)
      · obtain ⟨ad, rfl, c0, c1, c2, c3⟩ := (HR.out.keep H.out.1).rd k (by have := HM.out; omega)
        have C := Lib.hid (CM.out k)
        have hx := HR.out.ok.get k
        have HS := Lib.hid (kept_at l k (by have := HM.out; omega))
        generalize (l.take k).filter may = q at *
        rw [rwV_eq] at C
        generalize l.getD k r0 = x at *
        obtain ⟨xk, xa, xt, xn⟩ := x
        have R1 := Lib.hid (fun (W : World) => one_row (w := W) hx)
        clear hx
        dsimp only at *
        generalize strOf xt = S at *
        cases hmay : may ⟨xk, xa, xt, xn⟩ with
        | false =>
          rw [hmay] at C HS
          rw [if_neg (by decide), List.append_nil] at HS
          clear hmay R1
          go_wp2_with (go_at_call 10; (with_reducible refine (C.out _).mono ?_); rintro e v1 ⟨rfl, b⟩; have B1 := Lib.hid ((H.out.step (bal (b0 _) (.cells #[.int .u8 (xk : Int), .int .i64 xa, .string S, .int .i32 xn] 26))).step b); clear b)
          go_roundw
          case rel => exact ⟨k + 1, n, c, A, by omega, by omega, rfl, by go_num, Lib.hid (by rw [HS.out]; exact B1.out)⟩
          case measure => simp [intOf]; omega
        | true =>
          rw [hmay] at C HS
          rw [if_pos rfl] at HS
          clear hmay
          go_wp2_with (first
            | (go_at_call 10; (with_reducible refine (C.out _).mono ?_); rintro e v1 ⟨rfl, b⟩; obtain ⟨⟨x0, x1, x2, x3⟩, xl⟩ := box4 ((boxS_new wr 26 #[.int .u8 (xk : Int), .int .i64 xa, .string S, .int .i32 xn]).below b); have B1 := Lib.hid (((H.out.step (bal (b0 _) (.cells #[.int .u8 (xk : Int), .int .i64 xa, .string S, .int .i32 xn] 26))).step b).step (bal (b0 _) (.cells #[.int .u8 (xk : Int), .int .i64 xa, .string S, .int .i32 xn] 26))); clear b)
            | (at_builtin; (refine app_rws rfl (.tmp 26) (.tmp 28) rfl w.heap.size n c 1 1 (n + 1) A (some ⟨v1.heap.size, 0, none⟩) q [⟨xk, xa, xt, xn⟩] rfl rfl B1.out.2.2 rfl (R1.out v1) rfl (by omega) B1.out.1.size ?_; intro A3 d3 v3 o2 g2; have H3 := Lib.hid (B1.out.app o2 g2 HTab.out); clear o2 g2)))
          go_roundw
          case rel => exact ⟨k + 1, n + 1, d3, A3, by omega, by omega, rfl, by go_num, Lib.hid (by rw [HS.out]; exact H3.out)⟩
          case measure => simp [intOf]; omega
      · obtain rfl : k = m := by omega
        have hfull : l.take k = l := List.take_of_length_le (by have := HM.out; omega)
        have hmn : ∀ t ∈ l.filter may, may t = true ∧ OKn t := fun t h => by
          obtain ⟨h1, h2⟩ := List.mem_filter.1 h
          have := HR.out.ok t h1
          exact ⟨h2, this.2.2.1, this.2.2.2⟩
        rw [hfull] at H
        generalize l.filter may = o at *
        have hall := all_may hmn
        have hok := okl_may hmn
        have hon := H.out.2.2.len
        have hRo := H.out.2.2.rr hok
        clear CM hfull hlt HI
        by_cases hlong : 256 < (textT o).length
        · have htx := text_long hall hlong
          have n0 : (0 : Int) < (n : Int) := by
            have : n ≠ 0 := by
              rintro rfl
              obtain rfl : o = [] := List.eq_nil_of_length_eq_zero hon
              simp [textT] at hlong
            omega
          have CT : Hid (Calls Tryd.prog 11 #[.slice A n c] wr fun e w' => e = .returned (.tuple #[.string ⟨#[]⟩, .int .i64 3]) ∧ Below wr.heap.size wr w') := Lib.hid (Text_at hRo hon H.out.2.1 htx)
          clear hlong htx hall hok hmn hon hRo
          go_wp2_with (first
            | (go_at_call 11; (with_reducible refine (CT.out).mono ?_); rintro e v2 ⟨rfl, b⟩; have H1 := Lib.hid (H.out.step b); clear b)
            | (go_at_call 9; (with_reducible refine (CA.out _ H1.out.tab).mono ?_); rintro e v5 ⟨rfl, b⟩; have HB := Lib.hid (blw H1.out.1 b); clear b))
          go_ret
          exact ⟨rfl, HB.out⟩
        · have htx := text_ok hall (show (textT o).length ≤ 256 by omega)
          have hbk := toks_back hmn
          have hb2 : tokens (textT o) = (put 0 o, 0, 0) := tokens_ok (by omega) hbk
          have hm2 := tokens_okl (textT o)
          rw [hb2] at hm2
          have hinc := toks_inc _ (textT o) 0 (put 0 o) (Nat.le_refl _) hbk
          have hl2 := put_len 0 o
          rw [hon] at hl2
          have hkern := kern_put 0 o
          have S1 : St1 w wr A c o := ⟨H.out.1, H.out.2.1, hRo⟩
          have C2 := Lib.hid (Text_at hRo hon H.out.2.1 htx)
          have HS1 := Lib.hid S1
          have C3 : Hid (∀ (X : World) (h : St1 w X A c o), Calls Tryd.prog 12 #[.string (strOf (textT o))] X fun en w' => ∃ A2 c2, en = .returned (.tuple #[.slice A2 n c2, .int .i64 0, .int .i64 0]) ∧ St2 w w' A c o A2 c2 (put 0 o)) := Lib.hid fun X h => by
            have := Tokens_at (by unfold maxLen; omega) X h.tab hb2
            rw [hl2] at this
            exact this.mono fun e w' ⟨A2, c2, h1, h2, h3⟩ => ⟨A2, c2, h1, h.step h3, h2.rr (okl_may hm2)⟩
          have C5 : Hid (∀ (X : World) (A2 : Option Addr) (c2 : Nat) (h : St2 w X A c o A2 c2 (put 0 o)), Calls Tryd.prog 13 #[.slice A2 n c2, .slice A n c] X fun e w' => e = .returned (.bool true) ∧ Below X.heap.size X w') := Lib.hid fun X A2 c2 h => by
            have := RSame_any h.rr2 h.rr1 hl2 hon
            rwa [decide_eq_true hkern] at this
          have hszT := size_strOf (textT o)
          obtain ⟨NT, hNT⟩ : ∃ NT, (textT o).length = NT := ⟨_, rfl⟩
          rw [hNT] at hszT
          have NT0 : (0 : Int) ≤ (NT : Int) := by omega
          have NT1 : (NT : Int) ≤ 256 := by omega
          have HL2 := Lib.hid hl2
          have HInc := Lib.hid (fun (j : Nat) (h : j < n) => inc_at (put 0 o) ((0 : Nat) : Int) hinc j (by rw [hl2]; exact h))
          have HMay := Lib.hid (fun (j : Nat) (h : j < n) => (hm2 ((put 0 o).getD j r0) (getD_mem (by rw [hl2]; exact h))).1)
          have CM := Lib.hid (fun (j : Nat) (W : World) => May_any ((put 0 o).getD j r0) ((okl_may hm2).get j) W)
          have hn0 : (0 : Int) ≤ (n : Int) := by omega
          have hn1 : (n : Int) ≤ 300 := by omega
          clear hlong htx hall hok hmn hon hRo hbk hb2 hm2 hinc hl2 hkern S1 hNT
          generalize put 0 o = q at *
          generalize strOf (textT o) = T at *
          go_wp2_with (first
            | (go_at_call 11; (with_reducible refine (C2.out).mono ?_); rintro e v2 ⟨rfl, b⟩; have H2 := Lib.hid (HS1.out.step b); clear b)
            | (go_at_call 12; (with_reducible refine (C3.out _ H2.out).mono ?_); rintro e v3 ⟨A2, d2, rfl, h1⟩; have H3 := Lib.hid h1; clear h1)
            | (go_at_call 13; (with_reducible refine (C5.out _ _ _ H3.out).mono ?_); rintro e v5 ⟨rfl, b⟩; have H5 := Lib.hid (H3.out.step b); clear b))
          have HJ : Hid (St1 w v5 A2 d2 q) := Lib.hid ⟨H5.out.1.1, H5.out.tab, H5.out.rr2⟩
          clear H H2 H3 H5 HS1 C2 C3 C5
          go_loopw [11, 72] (fun v i wr => ∃ j : Nat, j ≤ n ∧ v = .int .i64 (nx 0 q j) ∧ i = .int .i64 j ∧ Hid (St1 w wr A2 d2 q)) (fun _ i _ => n - (intOf i).toNat)
          case atStart => exact ⟨0, Nat.zero_le _, rfl, rfl, HJ⟩
          case round =>
            obtain ⟨j, hj, rfl, rfl, H⟩ := hrel
            have hj0 : (0 : Int) ≤ (j : Int) := by omega
            by_cases hlt : (j : Int) < (n : Int)
            · obtain ⟨ad, rfl, c0, c1, c2, c3⟩ := H.out.rr.rd j (by have := HL2.out; omega)
              have C := Lib.hid (CM.out j)
              have hmj := HMay.out j (by omega)
              have hij : nx 0 q j ≤ (q.getD j r0).a := HInc.out j (by omega)
              have hnx : nx 0 q (j + 1) = (q.getD j r0).a + 1 := rfl
              have ha := may_at hmj
              rw [rwV_eq, hmj] at C
              generalize nx 0 q j = N at *
              have HNx := Lib.hid hnx
              clear hnx hmj
              generalize hq : nx 0 q (j + 1) = N2 at HNx
              generalize q.getD j r0 = x at *
              obtain ⟨xk, xa, xt, xn⟩ := x
              dsimp only at *
              generalize strOf xt = S at *
              obtain ⟨ha0, ha1⟩ := ha
              have hnl : ¬ (xa < N) := by omega
              have hdl : decide (xa < N) = false := decide_eq_false hnl
              go_wp2_with (go_at_call 10; (with_reducible refine (C.out _).mono ?_); rintro e v1 ⟨rfl, b⟩; obtain ⟨⟨x0, x1, x2, x3⟩, xl⟩ := box4 ((boxS_new wr 26 #[.int .u8 (xk : Int), .int .i64 xa, .string S, .int .i32 xn]).below b); have B1 := Lib.hid ((H.out.step (bal (b0 _) (.cells #[.int .u8 (xk : Int), .int .i64 xa, .string S, .int .i32 xn] 26))).step b); clear b)
              go_roundw
              case rel => exact ⟨j + 1, by omega, by rw [hq, HNx.out], by go_num, B1⟩
              case measure => simp [intOf]; omega
            · obtain rfl : j = n := by omega
              clear HInc HMay CM
              generalize nx 0 q j = N at *
              go_wp2_with (go_at_call 9; (with_reducible refine (CA.out _ H.out.tab).mono ?_); rintro e v6 ⟨rfl, b⟩; have HB := Lib.hid (blw H.out.1 b); clear b)
              go_ret
              exact ⟨rfl, HB.out⟩
end Go.Proofs.YtldnmdadlgjbgaaDoor
