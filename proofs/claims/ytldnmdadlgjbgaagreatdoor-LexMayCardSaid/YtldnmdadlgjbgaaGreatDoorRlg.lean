/- The reference: character literals. -/
import Derived.Test.YtldnmdadlgjbgaaGreatDoorRlf
import Derived.Test.YtldnmdadlgjbgaaGreatDoorRlc
set_option linter.unusedVariables false
set_option linter.unusedSimpArgs false
namespace Go.Proofs.YtldnmdadlgjbgaaGreatDoor
open Go Go.RowKit L8

/-! ### A box of four that is written whole -/
theorem box4f {W : World} {B : Nat} {t : TypeId} {cs : Array Value} (h : BoxS W B t cs) : W.frozen? ⟨B, 0, none⟩ = false ∧ W.frozen? ⟨B, 1, none⟩ = false ∧ W.frozen? ⟨B, 2, none⟩ = false ∧ W.frozen? ⟨B, 3, none⟩ = false :=
  ⟨h.frozen 0, h.frozen 1, h.frozen 2, h.frozen 3⟩
theorem box4_set0 {W : World} {B : Nat} {t : TypeId} {a b c d : Value} (v : Value) (h : BoxS W B t #[a, b, c, d]) : BoxS (W.setCell ⟨B, 0, none⟩ v) B t #[v, b, c, d] := by
  obtain ⟨hlt, hk⟩ := Array.getElem?_eq_some_iff.1 h
  show (W.heap.modify B _)[B]? = _
  rw [Array.getElem?_eq_getElem (by rw [Array.size_modify]; exact hlt), Array.getElem_modify_self, hk]
  rfl
theorem box4_set1 {W : World} {B : Nat} {t : TypeId} {a b c d : Value} (v : Value) (h : BoxS W B t #[a, b, c, d]) : BoxS (W.setCell ⟨B, 1, none⟩ v) B t #[a, v, c, d] := by
  obtain ⟨hlt, hk⟩ := Array.getElem?_eq_some_iff.1 h
  show (W.heap.modify B _)[B]? = _
  rw [Array.getElem?_eq_getElem (by rw [Array.size_modify]; exact hlt), Array.getElem_modify_self, hk]
  rfl
theorem box4_set2 {W : World} {B : Nat} {t : TypeId} {a b c d : Value} (v : Value) (h : BoxS W B t #[a, b, c, d]) : BoxS (W.setCell ⟨B, 2, none⟩ v) B t #[a, b, v, d] := by
  obtain ⟨hlt, hk⟩ := Array.getElem?_eq_some_iff.1 h
  show (W.heap.modify B _)[B]? = _
  rw [Array.getElem?_eq_getElem (by rw [Array.size_modify]; exact hlt), Array.getElem_modify_self, hk]
  rfl
theorem box4_set3 {W : World} {B : Nat} {t : TypeId} {a b c d : Value} (v : Value) (h : BoxS W B t #[a, b, c, d]) : BoxS (W.setCell ⟨B, 3, none⟩ v) B t #[a, b, c, v] := by
  obtain ⟨hlt, hk⟩ := Array.getElem?_eq_some_iff.1 h
  show (W.heap.modify B _)[B]? = _
  rw [Array.getElem?_eq_getElem (by rw [Array.size_modify]; exact hlt), Array.getElem_modify_self, hk]
  rfl
def set4 (W : World) (B : Nat) (a b c d : Value) : World := (((W.setCell ⟨B, 0, none⟩ a).setCell ⟨B, 1, none⟩ b).setCell ⟨B, 2, none⟩ c).setCell ⟨B, 3, none⟩ d
theorem box4_all {W : World} {B : Nat} {t : TypeId} {a' b' c' d' : Value} (a b c d : Value) (h : BoxS W B t #[a', b', c', d']) : BoxS (set4 W B a b c d) B t #[a, b, c, d] := box4_set3 _ (box4_set2 _ (box4_set1 _ (box4_set0 _ h)))
theorem bset4 {n : Nat} {w W : World} (h : Below n w W) {B : Nat} (hB : n ≤ B) (a b c d : Value) : Below n w (set4 W B a b c d) := bset (bset (bset (bset h hB _) hB _) hB _) hB _
/-! ### Literals -/
def QR (o : Option (Nat × Nat)) (e : Ending) : Prop := match o with
  | some (v, n) => e = .returned (.tuple #[.agg #[.int .u8 4, .int .i64 0, .string ⟨#[]⟩, .int .i32 (v : Int)], .int .i64 (n : Int)])
  | none => e = .returned (.tuple #[.agg #[.int .u8 0, .int .i64 0, .string ⟨#[]⟩, .int .i32 0], .int .i64 0])
theorem quoted_none {s : Bs} (h : ∀ m, 3 ≤ m → m ≤ 6 → quote s m = none) : L8.quoted s = none := by
  cases hq : L8.quoted s with
  | none => rfl
  | some q =>
    obtain ⟨v, n⟩ := q
    obtain ⟨h1, h2, h3, _⟩ := quoted_iff.1 hq
    rw [h n h1 h2] at h3
    cases h3
theorem quote_far {s : Bs} {m : Nat} (h : ¬ m ≤ s.length) : quote s m = none := by unfold quote; rw [if_neg h]
theorem quote_no {s : Bs} {m : Nat} (h : escape ((s.take (m - 1)).drop 1) = none) : quote s m = none := by
  unfold quote
  split
  · rw [h]
  · rfl
theorem quote_end {s : Bs} {m v : Nat} (h : escape ((s.take (m - 1)).drop 1) = some v) (h2 : s.getD (m - 1) 0 ≠ 39) : quote s m = none := by
  unfold quote
  rw [h]
  by_cases hm : m ≤ s.length
  · rw [if_pos hm]; exact if_neg h2
  · rw [if_neg hm]
theorem quote_yes {s : Bs} {m v : Nat} (hm : m ≤ s.length) (h : escape ((s.take (m - 1)).drop 1) = some v) (h2 : s.getD (m - 1) 0 = 39) : quote s m = some (v, m) := by
  unfold quote
  rw [if_pos hm, h]; exact if_pos h2
def z4 : Array Value := #[.int .u8 0, .int .i64 0, .string ⟨#[]⟩, .int .i32 0]
set_option maxRecDepth 100000 in
set_option maxHeartbeats 8000000 in
theorem Rquoted_any (s : Bs) (hl : s.length ≤ 256) (w : World) : Calls Tryz.prog 57 #[.string (strOf s)] w fun e w' => QR (L8.quoted s) e ∧ Below w.heap.size w w' := by
  have hsz := size_strOf s
  obtain ⟨n, hn⟩ : ∃ n, s.length = n := ⟨_, rfl⟩
  rw [hn] at hsz hl
  have hl2 : (n : Int) ≤ 256 := by omega
  have hn0 : (0 : Int) ≤ (n : Int) := by omega
  have BX := Lib.hid (boxS_new w 26 z4)
  have BB := Lib.hid (bal (b0 w) (.cells z4 26))
  have HM := Lib.hid hn
  have CE := Lib.hid (fun (m : Nat) (h : m ≤ n) (W : World) => Rescape_any ((s.take (m - 1)).drop 1) (by rw [List.length_drop, List.length_take]; unfold maxLen; omega) W)
  have HC := Lib.hid (fun (m : Nat) (h1 : 3 ≤ m) (h : m ≤ n) => cut_mid s 1 (m - 1) (by omega) (by omega))
  have HI := Lib.hid (fun (m : Nat) (h1 : 3 ≤ m) (h : m ≤ n) => index_l s (m - 1) (by omega))
  have HLt := Lib.hid (fun (m v : Nat) (h : escape ((s.take (m - 1)).drop 1) = some v) => escape_lt h)
  have HQn := Lib.hid (fun (m : Nat) => quote_no (s := s) (m := m))
  have HQe := Lib.hid (fun (m v : Nat) => quote_end (s := s) (m := m) (v := v))
  have HQy := Lib.hid (fun (m v : Nat) (h : m ≤ n) => quote_yes (s := s) (m := m) (v := v) (by omega))
  have HQf := Lib.hid (fun (m : Nat) (h : ¬ m ≤ n) => quote_far (s := s) (m := m) (by omega))
  have HHit := Lib.hid (fun (m v : Nat) (h1 : 3 ≤ m) (h2 : m ≤ 6) (h : quote s m = some (v, m)) (h3 : ∀ j, 3 ≤ j → j < m → quote s j = none) => quoted_iff.2 ⟨h1, h2, h, h3⟩)
  have HNone := Lib.hid (fun h => quoted_none (s := s) h)
  clear hn hl
  generalize L8.quoted s = o at *
  go_enter Tryz.func57, Tryz.ntmps57
  go_wp2
  obtain ⟨V, hV⟩ : ∃ V, w.alloc (.cells z4 26) = V := ⟨_, rfl⟩
  have BX2 := BX.out
  have BB2 := BB.out
  rw [hV] at BX2 BB2
  have hV2 : w.alloc (.cells #[.int .u8 0, .int .i64 0, .string ⟨#[]⟩, .int .i32 0] 26) = V := hV
  rw [hV2]
  have K1 := Lib.hid (And.intro BB2 BX2)
  clear hV hV2 BX2 BB2 BX BB
  go_loopw [4] (fun i wr => ∃ m : Nat, 3 ≤ m ∧ m ≤ 7 ∧ i = .int .i64 m ∧ Hid (Below V.heap.size V wr ∧ ∀ j, 3 ≤ j → j < m → quote s j = none)) (fun i _ => 7 - (intOf i).toNat)
  case atStart => exact ⟨3, by omega, by omega, rfl, Lib.hid ⟨b0 V, fun j h1 h2 => absurd h1 (by omega)⟩⟩
  case round =>
    obtain ⟨m, hm3, hm7, rfl, H⟩ := hrel
    have hm0 : (3 : Int) ≤ (m : Int) := by omega
    have hm1 : (m : Int) ≤ 7 := by omega
    have HK := Lib.hid (fun (X : World) (b : Below V.heap.size V X) => And.intro (blw K1.out.1 b) (show BoxS X w.heap.size 26 #[.int .u8 0, .int .i64 0, .string ⟨#[]⟩, .int .i32 0] from K1.out.2.below b))
    have HNx : Hid (quote s m = none → ∀ j, 3 ≤ j → j < m + 1 → quote s j = none) := Lib.hid fun h j h1 h2 => by
      by_cases h3 : j < m
      · exact H.out.2 j h1 h3
      · rw [show j = m by omega]; exact h
    have HP := Lib.hid H.out.2
    have HB := Lib.hid H.out.1
    clear H
    by_cases h6 : (m : Int) ≤ 6
    · by_cases hmn : (m : Int) ≤ (n : Int)
      · have hc := HC.out m hm3 (by omega)
        have hi := HI.out m hm3 (by omega)
        have e1 : ((m - 1 : Nat) : Int) = (m : Int) - 1 := by omega
        have e2 : ((1 : Nat) : Int) = 1 := rfl
        rw [e1, e2] at hc
        rw [e1] at hi
        have C := Lib.hid (CE.out m (by omega))
        have hy := HQy.out m
        have hne := HQe.out m
        have hnn := HQn.out m
        have hlt := HLt.out m
        generalize hx : (s.take (m - 1)).drop 1 = x at *
        generalize s.getD (m - 1) 0 = c at *
        clear hx e1 e2
        cases he : escape x with
        | none =>
          rw [he] at C
          have HE := Lib.hid (HNx.out (hnn he))
          clear he hy hne hnn hlt HNx
          generalize c.toNat = N at *
          generalize strOf x = X at *
          go_wp2_with (go_at_call 71; (with_reducible refine (C.out _).mono ?_); rintro e w3 ⟨⟨z, rfl⟩, b3⟩; have B3 := Lib.hid (blw HB.out b3); clear b3)
          go_roundw
          case rel => exact ⟨m + 1, by omega, by omega, by go_num, Lib.hid ⟨B3.out, HE.out⟩⟩
          case measure => simp [intOf]; omega
        | some v =>
          rw [he] at C
          by_cases hc39 : c = 39
          · have q1 : ((c.toNat : Int) == 39) = true := by rw [hc39]; rfl
            have HE := Lib.hid (HHit.out m v hm3 (by omega) (hy v (by omega) he hc39) HP.out)
            clear he hy hne hnn hlt HNx hc39
            generalize c.toNat = N at *
            generalize strOf x = X at *
            go_wp2_with (go_at_call 71; (with_reducible refine (C.out _).mono ?_); rintro e w3 ⟨rfl, b3⟩; have B3 := Lib.hid (HK.out _ (blw HB.out b3)); clear b3; obtain ⟨⟨x0, x1, x2, x3⟩, xl⟩ := box4 B3.out.2; obtain ⟨f0, f1, f2, f3⟩ := box4f B3.out.2)
            have HF := Lib.hid (And.intro (box4_all (.int .u8 4) (.int .i64 0) (.string ⟨#[]⟩) (.int .i32 (v : Int)) B3.out.2) (bset4 B3.out.1 (Nat.le_refl _) (.int .u8 4) (.int .i64 0) (.string ⟨#[]⟩) (.int .i32 (v : Int))))
            unfold set4 at HF
            clear x0 x1 x2 x3 f0 f1 f2 f3 B3
            generalize (((w3.setCell ⟨w.heap.size, 0, none⟩ (.int .u8 4)).setCell ⟨w.heap.size, 1, none⟩ (.int .i64 0)).setCell ⟨w.heap.size, 2, none⟩ (.string ⟨#[]⟩)).setCell ⟨w.heap.size, 3, none⟩ (.int .i32 (v : Int)) = W5 at *
            obtain ⟨⟨y0, y1, y2, y3⟩, yl⟩ := box4 HF.out.1
            refine bodyPost_ret (v := .tuple #[.agg #[.int .u8 4, .int .i64 0, .string ⟨#[]⟩, .int .i32 (v : Int)], .int .i64 (m : Int)]) (by simp [results, Tryz.results57, go_sem, y0, y1, y2, y3]) rfl ⟨?_, HF.out.2⟩
            rw [HE.out]
            rfl
          · have q1 : ((c.toNat : Int) == 39) = false := by
              have := byte_eq c 39 (by decide) 39 rfl
              rw [decide_eq_false hc39] at this
              exact this
            have HE := Lib.hid (HNx.out (hne v he hc39))
            clear he hy hne hnn hlt HNx hc39
            generalize c.toNat = N at *
            generalize strOf x = X at *
            go_wp2_with (go_at_call 71; (with_reducible refine (C.out _).mono ?_); rintro e w3 ⟨rfl, b3⟩; have B3 := Lib.hid (blw HB.out b3); clear b3)
            go_roundw
            case rel => exact ⟨m + 1, by omega, by omega, by go_num, Lib.hid ⟨B3.out, HE.out⟩⟩
            case measure => simp [intOf]; omega
      · have HE := Lib.hid (HNone.out (fun j h1 h2 => if h : j < m then HP.out j h1 h else HQf.out j (by omega)))
        have q6 : decide ((m : Int) ≤ 6) = true := decide_eq_true h6
        have B3 := Lib.hid (HK.out _ HB.out)
        obtain ⟨⟨x0, x1, x2, x3⟩, xl⟩ := box4 B3.out.2
        obtain ⟨f0, f1, f2, f3⟩ := box4f B3.out.2
        go_wp2
        have HF := Lib.hid (And.intro (box4_all (.int .u8 0) (.int .i64 0) (.string ⟨#[]⟩) (.int .i32 0) B3.out.2) (bset4 B3.out.1 (Nat.le_refl _) (.int .u8 0) (.int .i64 0) (.string ⟨#[]⟩) (.int .i32 0)))
        unfold set4 at HF
        clear x0 x1 x2 x3 f0 f1 f2 f3 B3
        generalize (((wr.setCell ⟨w.heap.size, 0, none⟩ (.int .u8 0)).setCell ⟨w.heap.size, 1, none⟩ (.int .i64 0)).setCell ⟨w.heap.size, 2, none⟩ (.string ⟨#[]⟩)).setCell ⟨w.heap.size, 3, none⟩ (.int .i32 0) = W5 at *
        obtain ⟨⟨y0, y1, y2, y3⟩, yl⟩ := box4 HF.out.1
        refine bodyPost_ret (v := .tuple #[.agg #[.int .u8 0, .int .i64 0, .string ⟨#[]⟩, .int .i32 0], .int .i64 0]) (by simp [results, Tryz.results57, go_sem, y0, y1, y2, y3]) rfl ⟨?_, HF.out.2⟩
        rw [HE.out]
        rfl
    · have HE := Lib.hid (HNone.out (fun j h1 h2 => HP.out j h1 (by omega)))
      have q6 : decide ((m : Int) ≤ 6) = false := decide_eq_false h6
      have B3 := Lib.hid (HK.out _ HB.out)
      obtain ⟨⟨x0, x1, x2, x3⟩, xl⟩ := box4 B3.out.2
      obtain ⟨f0, f1, f2, f3⟩ := box4f B3.out.2
      go_wp2
      have HF := Lib.hid (And.intro (box4_all (.int .u8 0) (.int .i64 0) (.string ⟨#[]⟩) (.int .i32 0) B3.out.2) (bset4 B3.out.1 (Nat.le_refl _) (.int .u8 0) (.int .i64 0) (.string ⟨#[]⟩) (.int .i32 0)))
      unfold set4 at HF
      clear x0 x1 x2 x3 f0 f1 f2 f3 B3
      generalize (((wr.setCell ⟨w.heap.size, 0, none⟩ (.int .u8 0)).setCell ⟨w.heap.size, 1, none⟩ (.int .i64 0)).setCell ⟨w.heap.size, 2, none⟩ (.string ⟨#[]⟩)).setCell ⟨w.heap.size, 3, none⟩ (.int .i32 0) = W5 at *
      obtain ⟨⟨y0, y1, y2, y3⟩, yl⟩ := box4 HF.out.1
      refine bodyPost_ret (v := .tuple #[.agg #[.int .u8 0, .int .i64 0, .string ⟨#[]⟩, .int .i32 0], .int .i64 0]) (by simp [results, Tryz.results57, go_sem, y0, y1, y2, y3]) rfl ⟨?_, HF.out.2⟩
      rw [HE.out]
      rfl
end Go.Proofs.YtldnmdadlgjbgaaGreatDoor
