/- The reference: the token with which a text begins. -/
import Derived.Test.YtldnmdadlgjbgaaGreatDoorRlg
set_option linter.unusedVariables false
set_option linter.unusedSimpArgs false
namespace Go.Proofs.YtldnmdadlgjbgaaGreatDoor
open Go Go.RowKit L8

def TR (o : Option (Nat × Bs × Int × Nat)) (e : Ending) : Prop := match o with
  | some (k, tx, v, n) => e = .returned (.tuple #[.agg #[.int .u8 (k : Int), .int .i64 0, .string (strOf tx), .int .i32 v], .int .i64 (n : Int)])
  | none => e = .returned (.tuple #[.agg #[.int .u8 0, .int .i64 0, .string ⟨#[]⟩, .int .i32 0], .int .i64 0])
theorem run_is {c : UInt8} {r : Bs} {m : Nat} (h1 : 1 ≤ m) (h2 : m ≤ (c :: r).length) (h : ∀ j, 1 ≤ j → j < m → wordB ((c :: r).getD j 0) = true) (hx : m = (c :: r).length ∨ wordB ((c :: r).getD m 0) = false) : 1 + wrun r = m := by
  obtain ⟨m, rfl⟩ : ∃ k, m = k + 1 := ⟨m - 1, by omega⟩
  simp only [List.length_cons] at h2 hx
  have ha : (r.take m).all wordB = true := by
    rw [List.all_eq_true]
    intro d hd
    obtain ⟨i, hi, e⟩ := List.getElem_of_mem hd
    rw [List.length_take] at hi
    have := h (i + 1) (by omega) (by omega)
    rw [List.getD_cons_succ] at this
    rw [← e, List.getElem_take]
    have e2 : r.getD i 0 = r[i] := by simp [show i < r.length by omega]
    rw [← e2]; exact this
  have hb : ∀ d, (r.drop m).head? = some d → wordB d = false := by
    intro d hd
    rw [List.head?_drop] at hd
    have hm : m < r.length := by
      have := (List.getElem?_eq_some_iff.1 hd).1
      exact this
    rcases hx with hx | hx
    · omega
    · rw [List.getD_cons_succ] at hx
      have e2 : r.getD m 0 = d := by simp [hd]
      rw [← e2]; exact hx
  have h3 := wrun_of ha hb
  rw [List.take_append_drop, List.length_take] at h3
  omega
theorem RWrap_pos (t : Int) (h0 : 0 ≤ t) (h1 : t < 4294967296) (w : World) : Calls Tryz.prog 56 #[.int .i64 t] w fun e w' => e = .returned (.int .i32 (redW t)) ∧ w = w' := by
  by_cases hh : 2147483648 ≤ t % 4294967296
  all_goals
    go_enter Tryz.func56, Tryz.ntmps56
    go_wp2
    go_ret
    exact ⟨ret_i (by unfold redW; first | (unfold wrap32; omega) | omega), rfl⟩
theorem tkeep {w X Y : World} {cs : Array Value} (h : Below w.heap.size w X ∧ BoxS X w.heap.size 26 cs) (b : Below X.heap.size X Y) : Below w.heap.size w Y ∧ BoxS Y w.heap.size 26 cs := ⟨blw h.1 b, h.2.below b⟩
set_option maxRecDepth 100000 in
set_option maxHeartbeats 16000000 in
theorem Rtoken_any (c : UInt8) (r : Bs) (hl : (c :: r).length ≤ 256) (w : World) : Calls Tryz.prog 36 #[.string (strOf (c :: r))] w fun e w' => TR (L8.token (c :: r)) e ∧ Below w.heap.size w w' := by
  obtain ⟨s, hs⟩ : ∃ s, c :: r = s := ⟨_, rfl⟩
  have hsz := size_strOf s
  obtain ⟨N, hN⟩ : ∃ N, s.length = N := ⟨_, rfl⟩
  have hN1 : (1 : Int) ≤ (N : Int) := by rw [← hN, ← hs]; simp; omega
  have hRun := fun m h1 h2 h hx => run_is (c := c) (r := r) (m := m) h1 h2 h hx
  have hi0 : ∀ W : World, (Instr.index 9 (.string (strOf s)) (.int .i64 0)).run Tryz.prog W = .ok (.int .u8 (c.toNat : Int)) W := by
    rw [← hs]; exact index_l (c :: r) 0 (by simp)
  rw [hs] at hRun hl ⊢
  rw [hN] at hsz hl hRun
  have hN2 : (N : Int) ≤ 256 := by omega
  have CL := Lib.hid (fun (W : World) => Rletter_any c W)
  have CD := Lib.hid (fun (W : World) => Rdigit_any c W)
  have CW := Lib.hid (fun (j : Nat) (W : World) => Rword_any (s.getD j 0) W)
  have HI := Lib.hid (fun (j : Nat) (h : j < N) => index_l s j (by omega))
  have HC := Lib.hid (fun (m : Nat) (h : m ≤ N) => cut_to s m (by omega))
  have HC1 := Lib.hid (fun (m : Nat) (h1 : 1 ≤ m) (h : m ≤ N) => show ∀ W : World, (Instr.slice 9 (.string (strOf s)) (some (.int .i64 1)) (some (.int .i64 (m : Int))) none).run Tryz.prog W = .ok (.string (strOf ((s.take m).drop 1))) W from cut_mid s 1 m h1 (by omega))
  have HRun := Lib.hid hRun
  have HSz := Lib.hid hN
  have BX := Lib.hid (boxS_new w 26 z4)
  have BB := Lib.hid (bal (b0 w) (.cells z4 26))
  have HS := Lib.hid hs
  clear hRun hN hl
  go_enter Tryz.func36, Tryz.ntmps36
  go_wp2
  obtain ⟨V, hV⟩ : ∃ V, w.alloc (.cells z4 26) = V := ⟨_, rfl⟩
  have BX2 := BX.out
  have BB2 := BB.out
  rw [hV] at BX2 BB2
  have hV2 : w.alloc (.cells #[.int .u8 0, .int .i64 0, .string ⟨#[]⟩, .int .i32 0] 26) = V := hV
  rw [hV2]
  have HB : Hid (Below w.heap.size w V ∧ BoxS V w.heap.size 26 #[.int .u8 0, .int .i64 0, .string ⟨#[]⟩, .int .i32 0]) := Lib.hid ⟨BB2, BX2⟩
  clear hV hV2 BX2 BB2 BX BB
  go_loopw [4] (fun i wr => ∃ m : Nat, 1 ≤ m ∧ m ≤ N ∧ i = .int .i64 m ∧ V = wr ∧ Hid (∀ j, 1 ≤ j → j < m → wordB (s.getD j 0) = true)) (fun i _ => N - (intOf i).toNat)
  case atStart => exact ⟨1, by omega, by omega, rfl, rfl, Lib.hid (fun j h1 h2 => absurd h1 (by omega))⟩
  case round =>
    obtain ⟨m, hm1, hmN, rfl, rfl, H⟩ := hrel
    have hm0 : (1 : Int) ≤ (m : Int) := by omega
    have hm2 : (m : Int) ≤ (N : Int) := by omega
    have key : ((m : Int) < (N : Int) ∧ wordB (s.getD m 0) = true) ∨ (¬ (m : Int) < (N : Int) ∧ 1 + wrun r = m) ∨ ((m : Int) < (N : Int) ∧ wordB (s.getD m 0) = false ∧ 1 + wrun r = m) := by
      by_cases h : (m : Int) < (N : Int)
      · cases hw : wordB (s.getD m 0) with
        | true => exact .inl ⟨h, rfl⟩
        | false => exact .inr (.inr ⟨h, rfl, HRun.out m hm1 hmN H.out (.inr hw)⟩)
      · exact .inr (.inl ⟨h, HRun.out m hm1 hmN H.out (.inl (by omega))⟩)
    rcases key with ⟨h1, h2⟩ | key
    · have Cw := Lib.hid (CW.out m)
      have hi := HI.out m (by omega)
      rw [h2] at Cw
      have HY : Hid (∀ j, 1 ≤ j → j < m + 1 → wordB (s.getD j 0) = true) := Lib.hid fun j g1 g2 => by
        by_cases h : j < m
        · exact H.out j g1 h
        · rw [show j = m by omega]; exact h2
      clear h2 H
      generalize (s.getD m 0).toNat = M at *
      go_wp2_with (go_at_call 23; (with_reducible refine (Cw.out _).mono ?_); rintro e v1 ⟨rfl, rfl⟩)
      go_roundw
      case rel => exact ⟨m + 1, by omega, by omega, by go_num, trivial, HY⟩
      case measure => simp [intOf]; omega
    · have hrun : 1 + wrun r = m := key.elim (·.2) (·.2.2)
      have q0 : (¬ (m : Int) < (N : Int)) ∨ ((m : Int) < (N : Int) ∧ wordB (s.getD m 0) = false) := key.elim (fun h => .inl h.1) (fun h => .inr ⟨h.1, h.2.1⟩)
      clear key H HRun
      have hct := HC.out m hmN
      have hc1 := HC1.out m hm1 hmN
      obtain ⟨x0, x1, x2, x3⟩ := (box4 HB.out.2).1
      have xl := (box4 HB.out.2).2
      obtain ⟨f0, f1, f2, f3⟩ := box4f HB.out.2
      have htl : (s.take m).length ≤ maxLen := by rw [List.length_take]; unfold maxLen; omega
      have CK := Lib.hid (fun (W : World) => RKey_any (s.take m) W)
      have CN := Lib.hid (fun (W : World) => RName_any (s.take m) htl W)
      have CV := Lib.hid (fun (W : World) => show Calls Tryz.prog 55 #[.string (strOf (s.take m)), .int .i64 10, .int .i64 10, .int .i64 2147483648] W (fun e w' => VR (value 10 10 2147483648 (s.take m)) e ∧ W = w') from Rvalue_any 10 10 2147483648 (.inl rfl) (by decide) (by decide) (s.take m) htl W)
      have CX := Lib.hid (fun (W : World) => show Calls Tryz.prog 55 #[.string (strOf ((s.take m).drop 1)), .int .i64 16, .int .i64 8, .int .i64 4294967296] W (fun e w' => VR (value 16 8 4294967296 ((s.take m).drop 1)) e ∧ W = w') from Rvalue_any 16 8 4294967296 (.inr rfl) (by decide) (by decide) ((s.take m).drop 1) (by rw [List.length_drop]; omega) W)
      have CQ := Lib.hid (fun (W : World) => Rquoted_any s (by have := HSz.out; omega) W)
      have CS1 := Lib.hid (fun (W : World) => RSymbol_any [c] W)
      have CS2 := Lib.hid (fun (W : World) => RSymbol_any (s.take 2) W)
      have hiC : ∃ M : Nat, (¬ (m : Int) < (N : Int)) ∨ ((m : Int) < (N : Int) ∧ (∀ W : World, (Instr.index 9 (.string (strOf s)) (.int .i64 (m : Int))).run Tryz.prog W = .ok (.int .u8 (M : Int)) W) ∧ Hid (∀ W : World, Calls Tryz.prog 23 #[.int .u8 (M : Int)] W fun e w' => e = .returned (.bool false) ∧ W = w')) := by
        rcases q0 with q0 | ⟨q0, qw⟩
        · exact ⟨0, .inl q0⟩
        · have h := CW.out m
          rw [qw] at h
          exact ⟨_, .inr ⟨q0, HI.out m (by omega), Lib.hid h⟩⟩
      obtain ⟨M, hiC⟩ := hiC
      clear q0 HI HC HC1 CW
      rcases token_cases c with h1 | ⟨h1, h2⟩ | h3 | h4 | ⟨h1, h2, h3, h4⟩
      · have ho := token_word (r := r) h1
        rw [HS.out, hrun] at ho
        rw [h1] at CL
        cases hk : isKey (s.take m) with
        | true =>
          rw [hk] at CK
          rw [hk, if_pos rfl] at ho
          have HE := Lib.hid ho
          clear ho hk h1 htl hrun hc1
          generalize c.toNat = C0 at *
          generalize s.take m = tx at *
          rcases hiC with q0 | ⟨q0, hi, Cw⟩
          all_goals (
            go_wp2_with (first
              | (go_at_call 23; (with_reducible refine (Cw.out _).mono ?_); rintro e v1 ⟨rfl, rfl⟩)
              | (go_at_call 22; (with_reducible refine (CL.out _).mono ?_); rintro e v2 ⟨rfl, rfl⟩)
              | (go_at_call 10; (with_reducible refine (CK.out _).mono ?_); rintro e v4 ⟨rfl, b⟩; replace HB := Lib.hid (tkeep HB.out b); clear b x0 x1 x2 x3 xl f0 f1 f2 f3; obtain ⟨⟨x0, x1, x2, x3⟩, xl⟩ := box4 HB.out.2; obtain ⟨f0, f1, f2, f3⟩ := box4f HB.out.2)
              | fail)
            have HF := Lib.hid (And.intro (box4_all (.int .u8 2) (.int .i64 0) (.string (strOf tx)) (.int .i32 0) HB.out.2) (bset4 HB.out.1 (Nat.le_refl _) (.int .u8 2) (.int .i64 0) (.string (strOf tx)) (.int .i32 0)))
            unfold set4 at HF
            clear x0 x1 x2 x3 f0 f1 f2 f3 HB
            generalize (((v4.setCell ⟨w.heap.size, 0, none⟩ (.int .u8 2)).setCell ⟨w.heap.size, 1, none⟩ (.int .i64 0)).setCell ⟨w.heap.size, 2, none⟩ (.string (strOf tx))).setCell ⟨w.heap.size, 3, none⟩ (.int .i32 0) = W5 at *
            obtain ⟨⟨y0, y1, y2, y3⟩, yl⟩ := box4 HF.out.1
            refine bodyPost_ret (v := .tuple #[.agg #[.int .u8 2, .int .i64 0, .string (strOf tx), .int .i32 0], .int .i64 (m : Int)]) (by simp [results, Tryz.results36, go_sem, y0, y1, y2, y3]) rfl ⟨?_, HF.out.2⟩
            rw [HE.out]
            try rfl)
        | false =>
          rw [hk] at CK
          rw [hk, if_neg (by decide)] at ho
          cases hn : isName (s.take m) with
          | true =>
            rw [hn] at CN
            rw [hn, if_pos rfl] at ho
            have HE := Lib.hid ho
            clear ho hk hn h1 htl hrun hc1
            generalize c.toNat = C0 at *
            generalize s.take m = tx at *
            rcases hiC with q0 | ⟨q0, hi, Cw⟩
            all_goals (
              go_wp2_with (first
                | (go_at_call 23; (with_reducible refine (Cw.out _).mono ?_); rintro e v1 ⟨rfl, rfl⟩)
                | (go_at_call 22; (with_reducible refine (CL.out _).mono ?_); rintro e v2 ⟨rfl, rfl⟩)
                | (go_at_call 10; (with_reducible refine (CK.out _).mono ?_); rintro e v4 ⟨rfl, b⟩; replace HB := Lib.hid (tkeep HB.out b); clear b x0 x1 x2 x3 xl f0 f1 f2 f3; obtain ⟨⟨x0, x1, x2, x3⟩, xl⟩ := box4 HB.out.2; obtain ⟨f0, f1, f2, f3⟩ := box4f HB.out.2)
                | (go_at_call 8; (with_reducible refine (CN.out _).mono ?_); rintro e v4 ⟨rfl, b⟩; replace HB := Lib.hid (tkeep HB.out b); clear b x0 x1 x2 x3 xl f0 f1 f2 f3; obtain ⟨⟨x0, x1, x2, x3⟩, xl⟩ := box4 HB.out.2; obtain ⟨f0, f1, f2, f3⟩ := box4f HB.out.2)
                | fail)
              have HF := Lib.hid (And.intro (box4_all (.int .u8 1) (.int .i64 0) (.string (strOf tx)) (.int .i32 0) HB.out.2) (bset4 HB.out.1 (Nat.le_refl _) (.int .u8 1) (.int .i64 0) (.string (strOf tx)) (.int .i32 0)))
              unfold set4 at HF
              clear x0 x1 x2 x3 f0 f1 f2 f3 HB
              generalize (((v4.setCell ⟨w.heap.size, 0, none⟩ (.int .u8 1)).setCell ⟨w.heap.size, 1, none⟩ (.int .i64 0)).setCell ⟨w.heap.size, 2, none⟩ (.string (strOf tx))).setCell ⟨w.heap.size, 3, none⟩ (.int .i32 0) = W5 at *
              obtain ⟨⟨y0, y1, y2, y3⟩, yl⟩ := box4 HF.out.1
              refine bodyPost_ret (v := .tuple #[.agg #[.int .u8 1, .int .i64 0, .string (strOf tx), .int .i32 0], .int .i64 (m : Int)]) (by simp [results, Tryz.results36, go_sem, y0, y1, y2, y3]) rfl ⟨?_, HF.out.2⟩
              rw [HE.out]
              try rfl)
          | false =>
            rw [hn] at CN
            rw [hn, if_neg (by decide)] at ho
            have HE := Lib.hid ho
            clear ho hk hn h1 htl hrun hc1
            generalize c.toNat = C0 at *
            generalize s.take m = tx at *
            rcases hiC with q0 | ⟨q0, hi, Cw⟩
            all_goals (
              go_wp2_with (first
                | (go_at_call 23; (with_reducible refine (Cw.out _).mono ?_); rintro e v1 ⟨rfl, rfl⟩)
                | (go_at_call 22; (with_reducible refine (CL.out _).mono ?_); rintro e v2 ⟨rfl, rfl⟩)
                | (go_at_call 10; (with_reducible refine (CK.out _).mono ?_); rintro e v4 ⟨rfl, b⟩; replace HB := Lib.hid (tkeep HB.out b); clear b x0 x1 x2 x3 xl f0 f1 f2 f3; obtain ⟨⟨x0, x1, x2, x3⟩, xl⟩ := box4 HB.out.2; obtain ⟨f0, f1, f2, f3⟩ := box4f HB.out.2)
                | (go_at_call 8; (with_reducible refine (CN.out _).mono ?_); rintro e v4 ⟨rfl, b⟩; replace HB := Lib.hid (tkeep HB.out b); clear b x0 x1 x2 x3 xl f0 f1 f2 f3; obtain ⟨⟨x0, x1, x2, x3⟩, xl⟩ := box4 HB.out.2; obtain ⟨f0, f1, f2, f3⟩ := box4f HB.out.2)
                | fail)
              have HF := Lib.hid (And.intro (box4_all (.int .u8 0) (.int .i64 0) (.string ⟨#[]⟩) (.int .i32 0) HB.out.2) (bset4 HB.out.1 (Nat.le_refl _) (.int .u8 0) (.int .i64 0) (.string ⟨#[]⟩) (.int .i32 0)))
              unfold set4 at HF
              clear x0 x1 x2 x3 f0 f1 f2 f3 HB
              generalize (((v4.setCell ⟨w.heap.size, 0, none⟩ (.int .u8 0)).setCell ⟨w.heap.size, 1, none⟩ (.int .i64 0)).setCell ⟨w.heap.size, 2, none⟩ (.string ⟨#[]⟩)).setCell ⟨w.heap.size, 3, none⟩ (.int .i32 0) = W5 at *
              obtain ⟨⟨y0, y1, y2, y3⟩, yl⟩ := box4 HF.out.1
              refine bodyPost_ret (v := .tuple #[.agg #[.int .u8 0, .int .i64 0, .string ⟨#[]⟩, .int .i32 0], .int .i64 0]) (by simp [results, Tryz.results36, go_sem, y0, y1, y2, y3]) rfl ⟨?_, HF.out.2⟩
              rw [HE.out]
              try rfl)
      · have ho := token_num (r := r) h1 h2
        rw [HS.out, hrun] at ho
        rw [h1] at CL
        rw [h2] at CD
        cases hv : value 10 10 2147483648 (s.take m) with
        | some v =>
          rw [hv] at CV ho
          have hlt := value_lt hv
          have s1 : IntKind.i32.wrap (v : Int) = (v : Int) := by
            unfold IntKind.wrap; simp [IntKind.bits, IntKind.signed]; omega
          have HE : Hid (L8.token s = some (3, [], (v : Int), m)) := Lib.hid ho
          clear ho hv h1 h2 htl hrun hc1 hlt
          generalize c.toNat = C0 at *
          generalize s.take m = tx at *
          rcases hiC with q0 | ⟨q0, hi, Cw⟩
          all_goals (
            go_wp2_with (first
              | (go_at_call 23; (with_reducible refine (Cw.out _).mono ?_); rintro e v1 ⟨rfl, rfl⟩)
              | (go_at_call 22; (with_reducible refine (CL.out _).mono ?_); rintro e v2 ⟨rfl, rfl⟩)
              | (go_at_call 46; (with_reducible refine (CD.out _).mono ?_); rintro e v3 ⟨rfl, rfl⟩)
              | (go_at_call 55; (with_reducible refine (CV.out _).mono ?_); rintro e v5 ⟨rfl, rfl⟩)
              | fail)
            have HF := Lib.hid (And.intro (box4_all (.int .u8 3) (.int .i64 0) (.string ⟨#[]⟩) (.int .i32 (v : Int)) HB.out.2) (bset4 HB.out.1 (Nat.le_refl _) (.int .u8 3) (.int .i64 0) (.string ⟨#[]⟩) (.int .i32 (v : Int))))
            unfold set4 at HF
            clear x0 x1 x2 x3 f0 f1 f2 f3 HB
            generalize (((V.setCell ⟨w.heap.size, 0, none⟩ (.int .u8 3)).setCell ⟨w.heap.size, 1, none⟩ (.int .i64 0)).setCell ⟨w.heap.size, 2, none⟩ (.string ⟨#[]⟩)).setCell ⟨w.heap.size, 3, none⟩ (.int .i32 (v : Int)) = W5 at *
            obtain ⟨⟨y0, y1, y2, y3⟩, yl⟩ := box4 HF.out.1
            refine bodyPost_ret (v := .tuple #[.agg #[.int .u8 3, .int .i64 0, .string ⟨#[]⟩, .int .i32 (v : Int)], .int .i64 (m : Int)]) (by simp [results, Tryz.results36, go_sem, y0, y1, y2, y3]) rfl ⟨?_, HF.out.2⟩
            rw [HE.out]
            try rfl)
        | none =>
          rw [hv] at CV ho
          have HE : Hid (L8.token s = none) := Lib.hid ho
          clear ho hv h1 h2 htl hrun hc1
          generalize c.toNat = C0 at *
          generalize s.take m = tx at *
          rcases hiC with q0 | ⟨q0, hi, Cw⟩
          all_goals (
            go_wp2_with (first
              | (go_at_call 23; (with_reducible refine (Cw.out _).mono ?_); rintro e v1 ⟨rfl, rfl⟩)
              | (go_at_call 22; (with_reducible refine (CL.out _).mono ?_); rintro e v2 ⟨rfl, rfl⟩)
              | (go_at_call 46; (with_reducible refine (CD.out _).mono ?_); rintro e v3 ⟨rfl, rfl⟩)
              | (go_at_call 55; (with_reducible refine (CV.out _).mono ?_); rintro e v5 ⟨⟨z, rfl⟩, rfl⟩)
              | fail)
            have HF := Lib.hid (And.intro (box4_all (.int .u8 0) (.int .i64 0) (.string ⟨#[]⟩) (.int .i32 0) HB.out.2) (bset4 HB.out.1 (Nat.le_refl _) (.int .u8 0) (.int .i64 0) (.string ⟨#[]⟩) (.int .i32 0)))
            unfold set4 at HF
            clear x0 x1 x2 x3 f0 f1 f2 f3 HB
            generalize (((V.setCell ⟨w.heap.size, 0, none⟩ (.int .u8 0)).setCell ⟨w.heap.size, 1, none⟩ (.int .i64 0)).setCell ⟨w.heap.size, 2, none⟩ (.string ⟨#[]⟩)).setCell ⟨w.heap.size, 3, none⟩ (.int .i32 0) = W5 at *
            obtain ⟨⟨y0, y1, y2, y3⟩, yl⟩ := box4 HF.out.1
            refine bodyPost_ret (v := .tuple #[.agg #[.int .u8 0, .int .i64 0, .string ⟨#[]⟩, .int .i32 0], .int .i64 0]) (by simp [results, Tryz.results36, go_sem, y0, y1, y2, y3]) rfl ⟨?_, HF.out.2⟩
            rw [HE.out]
            try rfl)
      · have ho : L8.token s = match value 16 8 4294967296 ((s.take m).drop 1) with | some v => some (3, [], redW (v : Int), m) | none => none := by
          have h := token_hex (r := r)
          rw [show (35 : UInt8) :: r = s by rw [← h3]; exact HS.out, hrun] at h
          rw [h]
          cases value 16 8 4294967296 ((s.take m).drop 1) <;> rfl
        rw [show letter c = false by rw [h3]; rfl] at CL
        rw [show digit c = false by rw [h3]; rfl] at CD
        have q35 : ((c.toNat : Int) == 35) = true := by rw [h3]; rfl
        cases hv : value 16 8 4294967296 ((s.take m).drop 1) with
        | some v =>
          rw [hv] at CX ho
          have hlt := value_lt hv
          have CWp := Lib.hid (fun (W : World) => RWrap_pos (v : Int) (by omega) (by omega) W)
          have HE : Hid (L8.token s = some (3, [], redW (v : Int), m)) := Lib.hid ho
          clear ho hv h3 htl hrun hct hlt
          generalize redW (v : Int) = rv at *
          generalize c.toNat = C0 at *
          generalize (s.take m).drop 1 = tx at *
          rcases hiC with q0 | ⟨q0, hi, Cw⟩
          all_goals (
            go_wp2_with (first
              | (go_at_call 23; (with_reducible refine (Cw.out _).mono ?_); rintro e v1 ⟨rfl, rfl⟩)
              | (go_at_call 22; (with_reducible refine (CL.out _).mono ?_); rintro e v2 ⟨rfl, rfl⟩)
              | (go_at_call 46; (with_reducible refine (CD.out _).mono ?_); rintro e v3 ⟨rfl, rfl⟩)
              | (go_at_call 55; (with_reducible refine (CX.out _).mono ?_); rintro e v5 ⟨rfl, rfl⟩)
              | (go_at_call 56; (with_reducible refine (CWp.out _).mono ?_); rintro e v6 ⟨rfl, rfl⟩)
              | fail)
            have HF := Lib.hid (And.intro (box4_all (.int .u8 3) (.int .i64 0) (.string ⟨#[]⟩) (.int .i32 rv) HB.out.2) (bset4 HB.out.1 (Nat.le_refl _) (.int .u8 3) (.int .i64 0) (.string ⟨#[]⟩) (.int .i32 rv)))
            unfold set4 at HF
            clear x0 x1 x2 x3 f0 f1 f2 f3 HB
            generalize (((V.setCell ⟨w.heap.size, 0, none⟩ (.int .u8 3)).setCell ⟨w.heap.size, 1, none⟩ (.int .i64 0)).setCell ⟨w.heap.size, 2, none⟩ (.string ⟨#[]⟩)).setCell ⟨w.heap.size, 3, none⟩ (.int .i32 rv) = W5 at *
            obtain ⟨⟨y0, y1, y2, y3⟩, yl⟩ := box4 HF.out.1
            refine bodyPost_ret (v := .tuple #[.agg #[.int .u8 3, .int .i64 0, .string ⟨#[]⟩, .int .i32 rv], .int .i64 (m : Int)]) (by simp [results, Tryz.results36, go_sem, y0, y1, y2, y3]) rfl ⟨?_, HF.out.2⟩
            rw [HE.out]
            try rfl)
        | none =>
          rw [hv] at CX ho
          have HE : Hid (L8.token s = none) := Lib.hid ho
          clear ho hv h3 htl hrun hct
          generalize c.toNat = C0 at *
          generalize (s.take m).drop 1 = tx at *
          rcases hiC with q0 | ⟨q0, hi, Cw⟩
          all_goals (
            go_wp2_with (first
              | (go_at_call 23; (with_reducible refine (Cw.out _).mono ?_); rintro e v1 ⟨rfl, rfl⟩)
              | (go_at_call 22; (with_reducible refine (CL.out _).mono ?_); rintro e v2 ⟨rfl, rfl⟩)
              | (go_at_call 46; (with_reducible refine (CD.out _).mono ?_); rintro e v3 ⟨rfl, rfl⟩)
              | (go_at_call 55; (with_reducible refine (CX.out _).mono ?_); rintro e v5 ⟨⟨z, rfl⟩, rfl⟩)
              | fail)
            have HF := Lib.hid (And.intro (box4_all (.int .u8 0) (.int .i64 0) (.string ⟨#[]⟩) (.int .i32 0) HB.out.2) (bset4 HB.out.1 (Nat.le_refl _) (.int .u8 0) (.int .i64 0) (.string ⟨#[]⟩) (.int .i32 0)))
            unfold set4 at HF
            clear x0 x1 x2 x3 f0 f1 f2 f3 HB
            generalize (((V.setCell ⟨w.heap.size, 0, none⟩ (.int .u8 0)).setCell ⟨w.heap.size, 1, none⟩ (.int .i64 0)).setCell ⟨w.heap.size, 2, none⟩ (.string ⟨#[]⟩)).setCell ⟨w.heap.size, 3, none⟩ (.int .i32 0) = W5 at *
            obtain ⟨⟨y0, y1, y2, y3⟩, yl⟩ := box4 HF.out.1
            refine bodyPost_ret (v := .tuple #[.agg #[.int .u8 0, .int .i64 0, .string ⟨#[]⟩, .int .i32 0], .int .i64 0]) (by simp [results, Tryz.results36, go_sem, y0, y1, y2, y3]) rfl ⟨?_, HF.out.2⟩
            rw [HE.out]
            try rfl)
      · have ho : L8.token s = match L8.quoted s with | some (v, n) => some (4, [], (v : Int), n) | none => none := by
          have h := token_quo (r := r)
          rw [show (39 : UInt8) :: r = s by rw [← h4]; exact HS.out] at h
          rw [h]
          cases L8.quoted s <;> rfl
        rw [show letter c = false by rw [h4]; rfl] at CL
        rw [show digit c = false by rw [h4]; rfl] at CD
        have q35 : ((c.toNat : Int) == 35) = false := by rw [h4]; rfl
        have q39 : ((c.toNat : Int) == 39) = true := by rw [h4]; rfl
        cases hv : L8.quoted s with
        | some q =>
          obtain ⟨v, n⟩ := q
          rw [hv] at CQ ho
          have HE : Hid (L8.token s = some (4, [], (v : Int), n)) := Lib.hid ho
          clear ho hv h4 htl hrun hct hc1
          generalize c.toNat = C0 at *
          rcases hiC with q0 | ⟨q0, hi, Cw⟩
          all_goals (
            go_wp2_with (first
              | (go_at_call 23; (with_reducible refine (Cw.out _).mono ?_); rintro e v1 ⟨rfl, rfl⟩)
              | (go_at_call 22; (with_reducible refine (CL.out _).mono ?_); rintro e v2 ⟨rfl, rfl⟩)
              | (go_at_call 46; (with_reducible refine (CD.out _).mono ?_); rintro e v3 ⟨rfl, rfl⟩)
              | (go_at_call 57; (with_reducible refine (CQ.out _).mono ?_); rintro e v4 ⟨rfl, b⟩; replace HB := Lib.hid (tkeep HB.out b); clear b x0 x1 x2 x3 xl f0 f1 f2 f3; obtain ⟨⟨x0, x1, x2, x3⟩, xl⟩ := box4 HB.out.2; obtain ⟨f0, f1, f2, f3⟩ := box4f HB.out.2)
              | fail)
            have HF := Lib.hid (And.intro (box4_all (.int .u8 4) (.int .i64 0) (.string ⟨#[]⟩) (.int .i32 (v : Int)) HB.out.2) (bset4 HB.out.1 (Nat.le_refl _) (.int .u8 4) (.int .i64 0) (.string ⟨#[]⟩) (.int .i32 (v : Int))))
            unfold set4 at HF
            clear x0 x1 x2 x3 f0 f1 f2 f3 HB
            generalize (((v4.setCell ⟨w.heap.size, 0, none⟩ (.int .u8 4)).setCell ⟨w.heap.size, 1, none⟩ (.int .i64 0)).setCell ⟨w.heap.size, 2, none⟩ (.string ⟨#[]⟩)).setCell ⟨w.heap.size, 3, none⟩ (.int .i32 (v : Int)) = W5 at *
            obtain ⟨⟨y0, y1, y2, y3⟩, yl⟩ := box4 HF.out.1
            refine bodyPost_ret (v := .tuple #[.agg #[.int .u8 4, .int .i64 0, .string ⟨#[]⟩, .int .i32 (v : Int)], .int .i64 (n : Int)]) (by simp [results, Tryz.results36, go_sem, y0, y1, y2, y3]) rfl ⟨?_, HF.out.2⟩
            rw [HE.out]
            try rfl)
        | none =>
          rw [hv] at CQ ho
          have HE : Hid (L8.token s = none) := Lib.hid ho
          clear ho hv h4 htl hrun hct hc1
          generalize c.toNat = C0 at *
          rcases hiC with q0 | ⟨q0, hi, Cw⟩
          all_goals (
            go_wp2_with (first
              | (go_at_call 23; (with_reducible refine (Cw.out _).mono ?_); rintro e v1 ⟨rfl, rfl⟩)
              | (go_at_call 22; (with_reducible refine (CL.out _).mono ?_); rintro e v2 ⟨rfl, rfl⟩)
              | (go_at_call 46; (with_reducible refine (CD.out _).mono ?_); rintro e v3 ⟨rfl, rfl⟩)
              | (go_at_call 57; (with_reducible refine (CQ.out _).mono ?_); rintro e v4 ⟨rfl, b⟩; replace HB := Lib.hid (tkeep HB.out b); clear b x0 x1 x2 x3 xl f0 f1 f2 f3; obtain ⟨⟨x0, x1, x2, x3⟩, xl⟩ := box4 HB.out.2; obtain ⟨f0, f1, f2, f3⟩ := box4f HB.out.2)
              | fail)
            have HF := Lib.hid (And.intro (box4_all (.int .u8 0) (.int .i64 0) (.string ⟨#[]⟩) (.int .i32 0) HB.out.2) (bset4 HB.out.1 (Nat.le_refl _) (.int .u8 0) (.int .i64 0) (.string ⟨#[]⟩) (.int .i32 0)))
            unfold set4 at HF
            clear x0 x1 x2 x3 f0 f1 f2 f3 HB
            generalize (((v4.setCell ⟨w.heap.size, 0, none⟩ (.int .u8 0)).setCell ⟨w.heap.size, 1, none⟩ (.int .i64 0)).setCell ⟨w.heap.size, 2, none⟩ (.string ⟨#[]⟩)).setCell ⟨w.heap.size, 3, none⟩ (.int .i32 0) = W5 at *
            obtain ⟨⟨y0, y1, y2, y3⟩, yl⟩ := box4 HF.out.1
            refine bodyPost_ret (v := .tuple #[.agg #[.int .u8 0, .int .i64 0, .string ⟨#[]⟩, .int .i32 0], .int .i64 0]) (by simp [results, Tryz.results36, go_sem, y0, y1, y2, y3]) rfl ⟨?_, HF.out.2⟩
            rw [HE.out]
            try rfl)
      · have ho := token_sym (r := r) h1 h2 h3 h4
        rw [HS.out] at ho
        rw [h1] at CL
        rw [h2] at CD
        have q35 : ((c.toNat : Int) == 35) = false := by
          have := byte_eq c 35 (by decide) 35 rfl
          rw [decide_eq_false h3] at this
          exact this
        have q39 : ((c.toNat : Int) == 39) = false := by
          have := byte_eq c 39 (by decide) 39 rfl
          rw [decide_eq_false h4] at this
          exact this
        have ht1 : s.take 1 = [c] := by rw [← HS.out]; rfl
        have g1 : ∀ W : World, (Instr.slice 9 (.string (strOf s)) none (some (.int .i64 1)) none).run Tryz.prog W = .ok (.string (strOf [c])) W := by
          rw [← ht1]; exact cut_to s 1 (by have := HSz.out; omega)
        have g2 : 1 < N → ∀ W : World, (Instr.slice 9 (.string (strOf s)) none (some (.int .i64 2)) none).run Tryz.prog W = .ok (.string (strOf (s.take 2))) W := fun h => cut_to s 2 (by have := HSz.out; omega)
        rw [HSz.out] at ho
        clear h1 h2 h3 h4 htl hrun hct hc1 ht1
        generalize c.toNat = C0 at *
        generalize hT2 : s.take 2 = t2 at *
        generalize hT1 : [c] = t1 at *
        clear hT1 hT2
        by_cases hn : (1 : Int) < (N : Int)
        · have g2 := g2 (by omega)
          cases hk2 : isSym t2 with
          | true =>
            rw [hk2] at CS2
            rw [if_pos ⟨by omega, hk2⟩] at ho
            have HE : Hid (L8.token s = some (5, t2, 0, 2)) := Lib.hid ho
            clear ho hk2
            rcases hiC with q0 | ⟨q0, hi, Cw⟩
            all_goals (
              go_wp2_with (first
                | (go_at_call 23; (with_reducible refine (Cw.out _).mono ?_); rintro e v1 ⟨rfl, rfl⟩)
                | (go_at_call 22; (with_reducible refine (CL.out _).mono ?_); rintro e v2 ⟨rfl, rfl⟩)
                | (go_at_call 46; (with_reducible refine (CD.out _).mono ?_); rintro e v3 ⟨rfl, rfl⟩)
                | (go_at_call 33; (with_reducible refine (CS2.out _).mono ?_); rintro e v4 ⟨rfl, b⟩; replace HB := Lib.hid (tkeep HB.out b); clear b x0 x1 x2 x3 xl f0 f1 f2 f3; obtain ⟨⟨x0, x1, x2, x3⟩, xl⟩ := box4 HB.out.2; obtain ⟨f0, f1, f2, f3⟩ := box4f HB.out.2)
                | fail)
              have HF := Lib.hid (And.intro (box4_all (.int .u8 5) (.int .i64 0) (.string (strOf t2)) (.int .i32 0) HB.out.2) (bset4 HB.out.1 (Nat.le_refl _) (.int .u8 5) (.int .i64 0) (.string (strOf t2)) (.int .i32 0)))
              unfold set4 at HF
              clear x0 x1 x2 x3 f0 f1 f2 f3 HB
              generalize (((v4.setCell ⟨w.heap.size, 0, none⟩ (.int .u8 5)).setCell ⟨w.heap.size, 1, none⟩ (.int .i64 0)).setCell ⟨w.heap.size, 2, none⟩ (.string (strOf t2))).setCell ⟨w.heap.size, 3, none⟩ (.int .i32 0) = W5 at *
              obtain ⟨⟨y0, y1, y2, y3⟩, yl⟩ := box4 HF.out.1
              refine bodyPost_ret (v := .tuple #[.agg #[.int .u8 5, .int .i64 0, .string (strOf t2), .int .i32 0], .int .i64 2]) (by simp [results, Tryz.results36, go_sem, y0, y1, y2, y3]) rfl ⟨?_, HF.out.2⟩
              rw [HE.out]
              try rfl)
          | false =>
            rw [hk2] at CS2
            rw [if_neg (by rw [hk2]; simp)] at ho
            cases hk : isSym t1 with
            | true =>
              rw [hk] at CS1
              rw [hk, if_pos rfl] at ho
              have HE : Hid (L8.token s = some (5, t1, 0, 1)) := Lib.hid ho
              clear ho hk hk2
              rcases hiC with q0 | ⟨q0, hi, Cw⟩
              all_goals (
                go_wp2_with (first
                  | (go_at_call 23; (with_reducible refine (Cw.out _).mono ?_); rintro e v1 ⟨rfl, rfl⟩)
                  | (go_at_call 22; (with_reducible refine (CL.out _).mono ?_); rintro e v2 ⟨rfl, rfl⟩)
                  | (go_at_call 46; (with_reducible refine (CD.out _).mono ?_); rintro e v3 ⟨rfl, rfl⟩)
                  | (go_at_call 33; (with_reducible refine (CS2.out _).mono ?_); rintro e v4 ⟨rfl, b⟩; replace HB := Lib.hid (tkeep HB.out b); clear b x0 x1 x2 x3 xl f0 f1 f2 f3; obtain ⟨⟨x0, x1, x2, x3⟩, xl⟩ := box4 HB.out.2; obtain ⟨f0, f1, f2, f3⟩ := box4f HB.out.2)
                  | (go_at_call 33; (with_reducible refine (CS1.out _).mono ?_); rintro e v4 ⟨rfl, b⟩; replace HB := Lib.hid (tkeep HB.out b); clear b x0 x1 x2 x3 xl f0 f1 f2 f3; obtain ⟨⟨x0, x1, x2, x3⟩, xl⟩ := box4 HB.out.2; obtain ⟨f0, f1, f2, f3⟩ := box4f HB.out.2)
                  | fail)
                have HF := Lib.hid (And.intro (box4_all (.int .u8 5) (.int .i64 0) (.string (strOf t1)) (.int .i32 0) HB.out.2) (bset4 HB.out.1 (Nat.le_refl _) (.int .u8 5) (.int .i64 0) (.string (strOf t1)) (.int .i32 0)))
                unfold set4 at HF
                clear x0 x1 x2 x3 f0 f1 f2 f3 HB
                generalize (((v4.setCell ⟨w.heap.size, 0, none⟩ (.int .u8 5)).setCell ⟨w.heap.size, 1, none⟩ (.int .i64 0)).setCell ⟨w.heap.size, 2, none⟩ (.string (strOf t1))).setCell ⟨w.heap.size, 3, none⟩ (.int .i32 0) = W5 at *
                obtain ⟨⟨y0, y1, y2, y3⟩, yl⟩ := box4 HF.out.1
                refine bodyPost_ret (v := .tuple #[.agg #[.int .u8 5, .int .i64 0, .string (strOf t1), .int .i32 0], .int .i64 1]) (by simp [results, Tryz.results36, go_sem, y0, y1, y2, y3]) rfl ⟨?_, HF.out.2⟩
                rw [HE.out]
                try rfl)
            | false =>
              rw [hk] at CS1
              rw [hk, if_neg (by decide)] at ho
              have HE : Hid (L8.token s = none) := Lib.hid ho
              clear ho hk hk2
              rcases hiC with q0 | ⟨q0, hi, Cw⟩
              all_goals (
                go_wp2_with (first
                  | (go_at_call 23; (with_reducible refine (Cw.out _).mono ?_); rintro e v1 ⟨rfl, rfl⟩)
                  | (go_at_call 22; (with_reducible refine (CL.out _).mono ?_); rintro e v2 ⟨rfl, rfl⟩)
                  | (go_at_call 46; (with_reducible refine (CD.out _).mono ?_); rintro e v3 ⟨rfl, rfl⟩)
                  | (go_at_call 33; (with_reducible refine (CS2.out _).mono ?_); rintro e v4 ⟨rfl, b⟩; replace HB := Lib.hid (tkeep HB.out b); clear b x0 x1 x2 x3 xl f0 f1 f2 f3; obtain ⟨⟨x0, x1, x2, x3⟩, xl⟩ := box4 HB.out.2; obtain ⟨f0, f1, f2, f3⟩ := box4f HB.out.2)
                  | (go_at_call 33; (with_reducible refine (CS1.out _).mono ?_); rintro e v4 ⟨rfl, b⟩; replace HB := Lib.hid (tkeep HB.out b); clear b x0 x1 x2 x3 xl f0 f1 f2 f3; obtain ⟨⟨x0, x1, x2, x3⟩, xl⟩ := box4 HB.out.2; obtain ⟨f0, f1, f2, f3⟩ := box4f HB.out.2)
                  | fail)
                have HF := Lib.hid (And.intro (box4_all (.int .u8 0) (.int .i64 0) (.string ⟨#[]⟩) (.int .i32 0) HB.out.2) (bset4 HB.out.1 (Nat.le_refl _) (.int .u8 0) (.int .i64 0) (.string ⟨#[]⟩) (.int .i32 0)))
                unfold set4 at HF
                clear x0 x1 x2 x3 f0 f1 f2 f3 HB
                generalize (((v4.setCell ⟨w.heap.size, 0, none⟩ (.int .u8 0)).setCell ⟨w.heap.size, 1, none⟩ (.int .i64 0)).setCell ⟨w.heap.size, 2, none⟩ (.string ⟨#[]⟩)).setCell ⟨w.heap.size, 3, none⟩ (.int .i32 0) = W5 at *
                obtain ⟨⟨y0, y1, y2, y3⟩, yl⟩ := box4 HF.out.1
                refine bodyPost_ret (v := .tuple #[.agg #[.int .u8 0, .int .i64 0, .string ⟨#[]⟩, .int .i32 0], .int .i64 0]) (by simp [results, Tryz.results36, go_sem, y0, y1, y2, y3]) rfl ⟨?_, HF.out.2⟩
                rw [HE.out]
                try rfl)
        · rw [if_neg (by omega)] at ho
          clear g2
          cases hk : isSym t1 with
          | true =>
            rw [hk] at CS1
            rw [hk, if_pos rfl] at ho
            have HE : Hid (L8.token s = some (5, t1, 0, 1)) := Lib.hid ho
            clear ho hk
            rcases hiC with q0 | ⟨q0, hi, Cw⟩
            all_goals (
              go_wp2_with (first
                | (go_at_call 23; (with_reducible refine (Cw.out _).mono ?_); rintro e v1 ⟨rfl, rfl⟩)
                | (go_at_call 22; (with_reducible refine (CL.out _).mono ?_); rintro e v2 ⟨rfl, rfl⟩)
                | (go_at_call 46; (with_reducible refine (CD.out _).mono ?_); rintro e v3 ⟨rfl, rfl⟩)
                | (go_at_call 33; (with_reducible refine (CS1.out _).mono ?_); rintro e v4 ⟨rfl, b⟩; replace HB := Lib.hid (tkeep HB.out b); clear b x0 x1 x2 x3 xl f0 f1 f2 f3; obtain ⟨⟨x0, x1, x2, x3⟩, xl⟩ := box4 HB.out.2; obtain ⟨f0, f1, f2, f3⟩ := box4f HB.out.2)
                | fail)
              all_goals (
                have HF := Lib.hid (And.intro (box4_all (.int .u8 5) (.int .i64 0) (.string (strOf t1)) (.int .i32 0) HB.out.2) (bset4 HB.out.1 (Nat.le_refl _) (.int .u8 5) (.int .i64 0) (.string (strOf t1)) (.int .i32 0)))
                unfold set4 at HF
                clear x0 x1 x2 x3 f0 f1 f2 f3 HB
                generalize (((v4.setCell ⟨w.heap.size, 0, none⟩ (.int .u8 5)).setCell ⟨w.heap.size, 1, none⟩ (.int .i64 0)).setCell ⟨w.heap.size, 2, none⟩ (.string (strOf t1))).setCell ⟨w.heap.size, 3, none⟩ (.int .i32 0) = W5 at *
                obtain ⟨⟨y0, y1, y2, y3⟩, yl⟩ := box4 HF.out.1
                refine bodyPost_ret (v := .tuple #[.agg #[.int .u8 5, .int .i64 0, .string (strOf t1), .int .i32 0], .int .i64 1]) (by simp [results, Tryz.results36, go_sem, y0, y1, y2, y3]) rfl ⟨?_, HF.out.2⟩
                rw [HE.out]
                try rfl))
          | false =>
            rw [hk] at CS1
            rw [hk, if_neg (by decide)] at ho
            have HE : Hid (L8.token s = none) := Lib.hid ho
            clear ho hk
            rcases hiC with q0 | ⟨q0, hi, Cw⟩
            all_goals (
              go_wp2_with (first
                | (go_at_call 23; (with_reducible refine (Cw.out _).mono ?_); rintro e v1 ⟨rfl, rfl⟩)
                | (go_at_call 22; (with_reducible refine (CL.out _).mono ?_); rintro e v2 ⟨rfl, rfl⟩)
                | (go_at_call 46; (with_reducible refine (CD.out _).mono ?_); rintro e v3 ⟨rfl, rfl⟩)
                | (go_at_call 33; (with_reducible refine (CS1.out _).mono ?_); rintro e v4 ⟨rfl, b⟩; replace HB := Lib.hid (tkeep HB.out b); clear b x0 x1 x2 x3 xl f0 f1 f2 f3; obtain ⟨⟨x0, x1, x2, x3⟩, xl⟩ := box4 HB.out.2; obtain ⟨f0, f1, f2, f3⟩ := box4f HB.out.2)
                | fail)
              all_goals (
                have HF := Lib.hid (And.intro (box4_all (.int .u8 0) (.int .i64 0) (.string ⟨#[]⟩) (.int .i32 0) HB.out.2) (bset4 HB.out.1 (Nat.le_refl _) (.int .u8 0) (.int .i64 0) (.string ⟨#[]⟩) (.int .i32 0)))
                unfold set4 at HF
                clear x0 x1 x2 x3 f0 f1 f2 f3 HB
                generalize (((v4.setCell ⟨w.heap.size, 0, none⟩ (.int .u8 0)).setCell ⟨w.heap.size, 1, none⟩ (.int .i64 0)).setCell ⟨w.heap.size, 2, none⟩ (.string ⟨#[]⟩)).setCell ⟨w.heap.size, 3, none⟩ (.int .i32 0) = W5 at *
                obtain ⟨⟨y0, y1, y2, y3⟩, yl⟩ := box4 HF.out.1
                refine bodyPost_ret (v := .tuple #[.agg #[.int .u8 0, .int .i64 0, .string ⟨#[]⟩, .int .i32 0], .int .i64 0]) (by simp [results, Tryz.results36, go_sem, y0, y1, y2, y3]) rfl ⟨?_, HF.out.2⟩
                rw [HE.out]
                try rfl))
end Go.Proofs.YtldnmdadlgjbgaaGreatDoor
