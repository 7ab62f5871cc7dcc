/- The program's readers of characters and symbols. -/
import Derived.Test.YtbkbhlbfkfnljaaGreatDoorM05
import Derived.Test.YtbkbhlbfkfnljaaGreatDoorM01
set_option linter.unusedVariables false
set_option linter.unusedSimpArgs false
set_option linter.unusedVariables false
set_option linter.unusedSimpArgs false
namespace Go.Proofs.YtbkbhlbfkfnljaaGreatDoor
open Go Go.RowKit L8

theorem charP_le : ∀ s : Bs, (charP s).2 ≤ s.length ∧ (charP s).1 < 256 := by
  intro s
  cases s with
  | nil => exact ⟨Nat.zero_le _, by decide⟩
  | cons c r =>
    unfold charP
    dsimp only
    by_cases h : ¬ (32 ≤ c.toNat ∧ c.toNat ≤ 126) ∨ c = 39
    · rw [if_pos h]; exact ⟨Nat.zero_le _, by decide⟩
    · rw [if_neg h]
      by_cases h2 : c = 42
      · rw [if_pos h2]
        rcases escH_ways (c :: r) with ⟨_, he⟩ | ⟨_, _, he⟩ | ⟨x, y, _, h4, _, ⟨v, hv, he, _⟩ | ⟨he, _⟩⟩
        · rw [escP_s he]
          rcases escS_ways (c :: r) with ⟨_, hE⟩ | ⟨_, _, hE⟩ | ⟨i, hi, h3, _, hE⟩
          · rw [hE]; exact ⟨Nat.zero_le _, by decide⟩
          · rw [hE]; exact ⟨Nat.zero_le _, by decide⟩
          · rw [hE]; exact ⟨h3, escd_lt i⟩
        · rw [escP_s he]
          rcases escS_ways (c :: r) with ⟨_, hE⟩ | ⟨_, _, hE⟩ | ⟨i, hi, h3, _, hE⟩
          · rw [hE]; exact ⟨Nat.zero_le _, by decide⟩
          · rw [hE]; exact ⟨Nat.zero_le _, by decide⟩
          · rw [hE]; exact ⟨h3, escd_lt i⟩
        · rw [escP_h he]; exact ⟨h4, hv⟩
        · rw [escP_s he]
          rcases escS_ways (c :: r) with ⟨_, hE⟩ | ⟨_, _, hE⟩ | ⟨i, hi, h3, _, hE⟩
          · rw [hE]; exact ⟨Nat.zero_le _, by decide⟩
          · rw [hE]; exact ⟨Nat.zero_le _, by decide⟩
          · rw [hE]; exact ⟨h3, escd_lt i⟩
      · rw [if_neg h2]; exact ⟨by simp, c.toNat_lt⟩
abbrev zt : Array Value := #[.int .u8 0, .int .i64 0, .string ⟨#[]⟩, .int .i32 0]
/-! ### Characters -/
set_option maxRecDepth 100000 in
set_option maxHeartbeats 8000000 in
theorem readCharacter_any {b p : Nat} {L r : Bs} {w : World} (h : Rd w b L p) (ht : W1.Tab w) (hL : L.length ≤ 256) (hc : L.drop p = 39 :: r) : Calls Tryz.prog 47 #[.pointer (some ⟨b, 0, none⟩)] w (RdR (L8.token (39 :: r)) L p b w) := by
  obtain ⟨hl, hp⟩ := drop_len hc
  have hd := drop_more hc
  have ht1 := token_quo (r := r)
  rw [charP_quoted] at ht1
  obtain ⟨hcl, hcv⟩ := charP_le r
  have CC : Hid (∀ (W : World), W1.Tab W → Calls Tryz.prog 62 #[.string (strOf r)] W fun e w' => e = .returned (.tuple #[.int .i32 ((charP r).1 : Int), .int .i64 ((charP r).2 : Int)]) ∧ Below W.heap.size W w') := Lib.hid fun W h => character_any r (by unfold maxLen; omega) W h
  generalize hvv : (charP r).1 = v at *
  generalize hmm : (charP r).2 = m at *
  have e0 : charP r = (v, m) := by rw [← hvv, ← hmm]
  rw [e0] at ht1
  clear hvv hmm e0
  have CA : Hid (∀ X, S4 w X b L p #[.int .u8 0, .int .i64 0, .string ⟨#[]⟩, .int .i32 0] → Calls Tryz.prog 58 #[.pointer (some ⟨b, 0, none⟩), .int .i64 1] X fun e w' => e = .returned (.string (strOf ((L.drop p).take 1))) ∧ ReadR X w' b L (p + 1)) := Lib.hid fun X H => take_any (m := 1) H.2.1 hL (by omega)
  have CR : Hid (∀ X, S4 w X b L (p + 1) #[.int .u8 0, .int .i64 0, .string ⟨#[]⟩, .int .i32 0] → Calls Tryz.prog 59 #[.pointer (some ⟨b, 0, none⟩)] X fun e w' => e = .returned (.string (strOf r)) ∧ Below X.heap.size X w') := Lib.hid fun X H => by
    have := rest_any H.2.1 hL (by omega)
    rwa [hd] at this
  have CT : Hid (∀ X, S4 w X b L (p + 1) #[.int .u8 0, .int .i64 0, .string ⟨#[]⟩, .int .i32 0] → Calls Tryz.prog 58 #[.pointer (some ⟨b, 0, none⟩), .int .i64 (m : Int)] X fun e w' => e = .returned (.string (strOf (r.take m))) ∧ ReadR X w' b L (p + 1 + m)) := Lib.hid fun X H => by
    have := take_any (m := m) H.2.1 hL (by omega)
    rwa [hd] at this
  have hd2 : L.drop (p + 1 + m) = r.drop m := by rw [← List.drop_drop, hd]
  have CS : Hid (∀ X, S4 w X b L (p + 1 + m) #[.int .u8 0, .int .i64 0, .string ⟨#[]⟩, .int .i32 0] → Calls Tryz.prog 59 #[.pointer (some ⟨b, 0, none⟩)] X fun e w' => e = .returned (.string (strOf (r.drop m))) ∧ Below X.heap.size X w') := Lib.hid fun X H => by
    have := rest_any H.2.1 hL (by omega)
    rwa [hd2] at this
  have CP : Hid (∀ W : World, Calls Tryz.prog 63 #[.string (strOf (r.drop m)), .string ⟨#[39]⟩] W fun e w' => e = .returned (.bool (decide ((r.drop m).head? = some 39))) ∧ W = w') := Lib.hid fun W => (cHasPrefix (r.drop m) [39] W).mono fun e w' h => ⟨by have := h.1; rw [pre_one] at this; exact this, h.2⟩
  have CQ : Hid ((r.drop m).head? = some 39 → ∀ X, S4 w X b L (p + 1 + m) #[.int .u8 0, .int .i64 0, .string ⟨#[]⟩, .int .i32 0] → Calls Tryz.prog 58 #[.pointer (some ⟨b, 0, none⟩), .int .i64 1] X fun e w' => e = .returned (.string (strOf ((L.drop (p + 1 + m)).take 1))) ∧ ReadR X w' b L (p + (m + 2))) := Lib.hid fun hh X H => by
    have hlt := ((drop_head r m).1 hh).1
    have := take_any (m := 1) H.2.1 hL (by omega)
    rwa [show p + 1 + m + 1 = p + (m + 2) by omega] at this
  have H0 := Lib.hid (S4.new h ht)
  have hm0 : (0 : Int) ≤ (m : Int) := by omega
  have hm1 : (m : Int) ≤ 256 := by omega
  have hv0 : (0 : Int) ≤ (v : Int) := by omega
  have hv1 : (v : Int) < 256 := by omega
  clear h ht hL hc hl hp hcl hd hcv
  generalize (L.drop p).take 1 = U at *
  generalize (L.drop (p + 1 + m)).take 1 = U2 at *
  generalize r.take m = T at *
  unfold lit at ht1
  dsimp only at ht1
  by_cases hz : m = 0
  · rw [if_neg (fun k => k.1 hz)] at ht1
    dsimp only at ht1
    have q0 : ((m : Int) == 0) = true := by rw [hz]; rfl
    have HE := Lib.hid (fun (W : World) (cs : Array Value) (H : S4 w W b L (p + 1 + m) cs) => rdr_none (k := 0) (tx := ⟨#[]⟩) (v := 0) (p := p) ht1 H)
    clear ht1 CQ CS CP hd2 hz
    generalize RdR (L8.token (39 :: r)) L p b w = P at *
    generalize strOf r = S at *
    generalize strOf U = UU at *
    generalize strOf T = TT at *
    go_enter Tryz.func47, Tryz.ntmps47
    go_wp2_with (first
      | (go_at_call 58; (with_reducible refine (CA.out _ H0.out).mono ?_); rintro e wa ⟨rfl, r1⟩; have Ha := Lib.hid (H0.out.read r1); clear r1)
      | (go_at_call 59; (with_reducible refine (CR.out _ Ha.out).mono ?_); rintro e w1 ⟨rfl, b1⟩; have H1 := Lib.hid (Ha.out.below b1); clear b1)
      | (go_at_call 62; (with_reducible refine (CC.out _ H1.out.tab).mono ?_); rintro e w2 ⟨rfl, b1⟩; have H2 := Lib.hid (H1.out.below b1); clear b1)
      | (go_at_call 58; (with_reducible refine (CT.out _ H2.out).mono ?_); rintro e w3 ⟨rfl, r1⟩; have H3 := Lib.hid (H2.out.read r1); clear r1; obtain ⟨⟨x0, x1, x2, x3⟩, xl⟩ := box4 H3.out.2.2.1; obtain ⟨f0, f1, f2, f3⟩ := box4f H3.out.2.2.1))
    have HF := Lib.hid (S4.fin (.int .u8 0) (.int .i64 0) (.string ⟨#[]⟩) (.int .i32 0) H3.out)
    unfold set4 at HF
    clear x0 x1 x2 x3 f0 f1 f2 f3 
    generalize (((w3.setCell ⟨w.heap.size, 0, none⟩ (.int .u8 0)).setCell ⟨w.heap.size, 1, none⟩ (.int .i64 0)).setCell ⟨w.heap.size, 2, none⟩ (.string ⟨#[]⟩)).setCell ⟨w.heap.size, 3, none⟩ (.int .i32 0) = W5 at *
    obtain ⟨⟨y0, y1, y2, y3⟩, yl⟩ := box4 HF.out.2.2.1
    refine bodyPost_ret (v := .tuple #[.agg #[.int .u8 0, .int .i64 0, .string ⟨#[]⟩, .int .i32 0], .bool false]) (by simp [results, Tryz.results47, go_sem, y0, y1, y2, y3]) rfl ?_
    exact HE.out _ _ HF.out
  · have q0 : ((m : Int) == 0) = false := by simp [hz]
    by_cases hh : (r.drop m).head? = some 39
    · rw [if_pos ⟨hz, hh⟩] at ht1
      dsimp only at ht1
      rw [decide_eq_true hh] at CP
      have CQ2 := Lib.hid (CQ.out hh)
      have HE := Lib.hid (fun (W : World) (cs : Array Value) (H : S4 w W b L (p + (m + 2)) cs) => rdr_some ht1 H)
      clear ht1 CQ hh hd2 hz
      generalize RdR (L8.token (39 :: r)) L p b w = P at *
      generalize strOf (r.drop m) = SD at *
      generalize strOf r = S at *
      generalize strOf U = UU at *
      generalize strOf U2 = UU2 at *
      generalize strOf T = TT at *
      go_enter Tryz.func47, Tryz.ntmps47
      go_wp2_with (first
        | (go_at_call 58; (with_reducible refine (CA.out _ H0.out).mono ?_); rintro e wa ⟨rfl, r1⟩; have Ha := Lib.hid (H0.out.read r1); clear r1 CA)
        | (go_at_call 59; (with_reducible refine (CR.out _ Ha.out).mono ?_); rintro e w1 ⟨rfl, b1⟩; have H1 := Lib.hid (Ha.out.below b1); clear b1 CR)
        | (go_at_call 62; (with_reducible refine (CC.out _ H1.out.tab).mono ?_); rintro e w2 ⟨rfl, b1⟩; have H2 := Lib.hid (H1.out.below b1); clear b1)
        | (go_at_call 58; (with_reducible refine (CT.out _ H2.out).mono ?_); rintro e w3 ⟨rfl, r1⟩; have H3 := Lib.hid (H2.out.read r1); clear r1)
        | (go_at_call 59; (with_reducible refine (CS.out _ H3.out).mono ?_); rintro e w4 ⟨rfl, b1⟩; have H4 := Lib.hid (H3.out.below b1); clear b1)
        | (go_at_call 63; (with_reducible refine (CP.out _).mono ?_); rintro e w5 ⟨rfl, rfl⟩)
        | (go_at_call 58; (with_reducible refine (CQ2.out _ H4.out).mono ?_); rintro e w6 ⟨rfl, r1⟩; have H5 := Lib.hid (H4.out.read r1); clear r1; obtain ⟨⟨x0, x1, x2, x3⟩, xl⟩ := box4 H5.out.2.2.1; obtain ⟨f0, f1, f2, f3⟩ := box4f H5.out.2.2.1))
      have HF := Lib.hid (S4.fin (.int .u8 4) (.int .i64 0) (.string ⟨#[]⟩) (.int .i32 (v : Int)) H5.out)
      unfold set4 at HF
      clear x0 x1 x2 x3 f0 f1 f2 f3 
      generalize (((w6.setCell ⟨w.heap.size, 0, none⟩ (.int .u8 4)).setCell ⟨w.heap.size, 1, none⟩ (.int .i64 0)).setCell ⟨w.heap.size, 2, none⟩ (.string ⟨#[]⟩)).setCell ⟨w.heap.size, 3, none⟩ (.int .i32 (v : Int)) = W5 at *
      obtain ⟨⟨y0, y1, y2, y3⟩, yl⟩ := box4 HF.out.2.2.1
      refine bodyPost_ret (v := .tuple #[.agg #[.int .u8 4, .int .i64 0, .string ⟨#[]⟩, .int .i32 (v : Int)], .bool true]) (by simp [results, Tryz.results47, go_sem, y0, y1, y2, y3]) rfl ?_
      exact HE.out _ _ HF.out
    · rw [if_neg (fun k => hh k.2)] at ht1
      dsimp only at ht1
      rw [decide_eq_false hh] at CP
      have HE := Lib.hid (fun (W : World) (cs : Array Value) (H : S4 w W b L (p + 1 + m) cs) => rdr_none (k := 0) (tx := ⟨#[]⟩) (v := 0) (p := p) ht1 H)
      clear ht1 CQ hh hd2 hz
      generalize RdR (L8.token (39 :: r)) L p b w = P at *
      generalize strOf (r.drop m) = SD at *
      generalize strOf r = S at *
      generalize strOf U = UU at *
      generalize strOf T = TT at *
      go_enter Tryz.func47, Tryz.ntmps47
      go_wp2_with (first
        | (go_at_call 58; (with_reducible refine (CA.out _ H0.out).mono ?_); rintro e wa ⟨rfl, r1⟩; have Ha := Lib.hid (H0.out.read r1); clear r1 CA)
        | (go_at_call 59; (with_reducible refine (CR.out _ Ha.out).mono ?_); rintro e w1 ⟨rfl, b1⟩; have H1 := Lib.hid (Ha.out.below b1); clear b1 CR)
        | (go_at_call 62; (with_reducible refine (CC.out _ H1.out.tab).mono ?_); rintro e w2 ⟨rfl, b1⟩; have H2 := Lib.hid (H1.out.below b1); clear b1)
        | (go_at_call 58; (with_reducible refine (CT.out _ H2.out).mono ?_); rintro e w3 ⟨rfl, r1⟩; have H3 := Lib.hid (H2.out.read r1); clear r1)
        | (go_at_call 59; (with_reducible refine (CS.out _ H3.out).mono ?_); rintro e w4 ⟨rfl, b1⟩; have H4 := Lib.hid (H3.out.below b1); clear b1)
        | (go_at_call 63; (with_reducible refine (CP.out _).mono ?_); rintro e w5 ⟨rfl, rfl⟩; obtain ⟨⟨x0, x1, x2, x3⟩, xl⟩ := box4 H4.out.2.2.1; obtain ⟨f0, f1, f2, f3⟩ := box4f H4.out.2.2.1))
      have HF := Lib.hid (S4.fin (.int .u8 0) (.int .i64 0) (.string ⟨#[]⟩) (.int .i32 0) H4.out)
      unfold set4 at HF
      clear x0 x1 x2 x3 f0 f1 f2 f3 
      generalize (((w4.setCell ⟨w.heap.size, 0, none⟩ (.int .u8 0)).setCell ⟨w.heap.size, 1, none⟩ (.int .i64 0)).setCell ⟨w.heap.size, 2, none⟩ (.string ⟨#[]⟩)).setCell ⟨w.heap.size, 3, none⟩ (.int .i32 0) = W5 at *
      obtain ⟨⟨y0, y1, y2, y3⟩, yl⟩ := box4 HF.out.2.2.1
      refine bodyPost_ret (v := .tuple #[.agg #[.int .u8 0, .int .i64 0, .string ⟨#[]⟩, .int .i32 0], .bool false]) (by simp [results, Tryz.results47, go_sem, y0, y1, y2, y3]) rfl ?_
      exact HE.out _ _ HF.out
/-! ### Symbols -/
set_option maxRecDepth 100000 in
set_option maxHeartbeats 8000000 in
theorem readSymbol_any {b p : Nat} {L r : Bs} {c : UInt8} {w : World} (h : Rd w b L p) (ht : W1.Tab w) (hL : L.length ≤ 256) (hc : L.drop p = c :: r) (h1 : letter c = false) (h2 : digit c = false) (h3 : c ≠ 35) (h4 : c ≠ 39) : Calls Tryz.prog 48 #[.pointer (some ⟨b, 0, none⟩)] w (RdR (L8.token (c :: r)) L p b w) := by
  obtain ⟨hl, hp⟩ := drop_len hc
  have ht1 := token_sym (r := r) h1 h2 h3 h4
  have CR : Hid (∀ X, S4 w X b L p #[.int .u8 0, .int .i64 0, .string ⟨#[]⟩, .int .i32 0] → Calls Tryz.prog 59 #[.pointer (some ⟨b, 0, none⟩)] X fun e w' => e = .returned (.string (strOf (c :: r))) ∧ Below X.heap.size X w') := Lib.hid fun X H => by
    have := rest_any H.2.1 hL (by omega)
    rwa [hc] at this
  have CT : Hid (∀ m, m ≤ (c :: r).length → ∀ X, S4 w X b L p #[.int .u8 0, .int .i64 0, .string ⟨#[]⟩, .int .i32 0] → Calls Tryz.prog 58 #[.pointer (some ⟨b, 0, none⟩), .int .i64 (m : Int)] X fun e w' => e = .returned (.string (strOf ((c :: r).take m))) ∧ ReadR X w' b L (p + m)) := Lib.hid fun m hm X H => by
    have := take_any (m := m) H.2.1 hL (by rw [List.length_cons] at hm; omega)
    rwa [hc] at this
  have hsz := size_strOf (c :: r)
  have H0 := Lib.hid (S4.new h ht)
  have HC := Lib.hid (fun (k : Nat) (hk : k ≤ (c :: r).length) => cut_to (c :: r) k hk)
  have CS := Lib.hid (fun (s : Bs) (W : World) => isSymbol_any s W)
  have e1 : (c :: r).take 1 = [c] := rfl
  obtain ⟨n, hn⟩ : ∃ n, (c :: r).length = n := ⟨_, rfl⟩
  have hn1 : 1 ≤ n := by rw [← hn]; simp
  have hn2 : n ≤ 256 := by rw [← hn, List.length_cons]; omega
  rw [hn] at CT HC hsz ht1
  clear h ht hL hc hl hp h1 h2 h3 h4 hn
  have hn0 : (0 : Int) ≤ (n : Int) := by omega
  have CT1 : Hid (∀ X, S4 w X b L p #[.int .u8 0, .int .i64 0, .string ⟨#[]⟩, .int .i32 0] → Calls Tryz.prog 58 #[.pointer (some ⟨b, 0, none⟩), .int .i64 1] X fun e w' => e = .returned (.string (strOf [c])) ∧ ReadR X w' b L (p + 1)) := Lib.hid (CT.out 1 hn1)
  have CC1 : Hid (∀ W : World, Calls Tryz.prog 37 #[.string (strOf [c])] W fun e w' => e = .returned (.bool (isSym [c])) ∧ W = w') := Lib.hid fun W => CS.out [c] W
  by_cases h1n : n = 1
  · have hmin : min (2 : Int) (n : Int) = 1 := by omega
    rw [if_neg (by omega)] at ht1
    have hc1 : ∀ W : World, (Instr.slice 9 (.string (strOf (c :: r))) none (some (.int .i64 1)) none).run Tryz.prog W = .ok (.string (strOf [c])) W := HC.out 1 hn1
    clear CT HC CS e1 h1n
    cases hs : isSym [c] with
    | true =>
      rw [hs] at ht1 CC1
      rw [if_pos rfl] at ht1
      have HE := Lib.hid (fun (W : World) (cs : Array Value) (H : S4 w W b L (p + 1) cs) => rdr_some ht1 H)
      clear ht1 hs
      generalize strOf [c] = CCs at *
      generalize strOf (c :: r) = S at *
      generalize RdR (L8.token (c :: r)) L p b w = P at *
      go_enter Tryz.func48, Tryz.ntmps48
      go_wp2_with (first
        | (go_at_call 59; (with_reducible refine (CR.out _ H0.out).mono ?_); rintro e w1 ⟨rfl, b1⟩; have H1 := Lib.hid (H0.out.below b1); clear b1 H0)
        | (go_at_call 59; (with_reducible refine (CR.out _ H1.out).mono ?_); rintro e w2 ⟨rfl, b1⟩; have H2 := Lib.hid (H1.out.below b1); clear b1 H1)
        | (go_at_call 58; (with_reducible refine (CT1.out _ H2.out).mono ?_); rintro e w3 ⟨rfl, r1⟩; have H3 := Lib.hid (H2.out.read r1); clear r1; obtain ⟨⟨x0, x1, x2, x3⟩, xl⟩ := box4 H3.out.2.2.1; obtain ⟨f0, f1, f2, f3⟩ := box4f H3.out.2.2.1)
        | (go_at_call 37; (with_reducible refine (CC1.out _).mono ?_); rintro e w5 ⟨rfl, rfl⟩))
      have HF := Lib.hid (S4.fin (.int .u8 5) (.int .i64 0) (.string CCs) (.int .i32 0) H3.out)
      unfold set4 at HF
      clear x0 x1 x2 x3 f0 f1 f2 f3 
      generalize (((w3.setCell ⟨w.heap.size, 0, none⟩ (.int .u8 5)).setCell ⟨w.heap.size, 1, none⟩ (.int .i64 0)).setCell ⟨w.heap.size, 2, none⟩ (.string CCs)).setCell ⟨w.heap.size, 3, none⟩ (.int .i32 0) = W5 at *
      obtain ⟨⟨y0, y1, y2, y3⟩, yl⟩ := box4 HF.out.2.2.1
      refine bodyPost_ret (v := .tuple #[.agg #[.int .u8 5, .int .i64 0, .string CCs, .int .i32 0], .bool true]) (by simp [results, Tryz.results48, go_sem, y0, y1, y2, y3]) rfl ?_
      exact HE.out _ _ HF.out
    | false =>
      rw [hs] at ht1 CC1
      rw [if_neg (by decide)] at ht1
      have HE := Lib.hid (fun (W : World) (cs : Array Value) (H : S4 w W b L (p + 1) cs) => rdr_none (k := 5) (tx := strOf [c]) (v := 0) (p := p) ht1 H)
      clear ht1 hs
      generalize strOf [c] = CCs at *
      generalize strOf (c :: r) = S at *
      generalize RdR (L8.token (c :: r)) L p b w = P at *
      go_enter Tryz.func48, Tryz.ntmps48
      go_wp2_with (first
        | (go_at_call 59; (with_reducible refine (CR.out _ H0.out).mono ?_); rintro e w1 ⟨rfl, b1⟩; have H1 := Lib.hid (H0.out.below b1); clear b1 H0)
        | (go_at_call 59; (with_reducible refine (CR.out _ H1.out).mono ?_); rintro e w2 ⟨rfl, b1⟩; have H2 := Lib.hid (H1.out.below b1); clear b1 H1)
        | (go_at_call 58; (with_reducible refine (CT1.out _ H2.out).mono ?_); rintro e w3 ⟨rfl, r1⟩; have H3 := Lib.hid (H2.out.read r1); clear r1; obtain ⟨⟨x0, x1, x2, x3⟩, xl⟩ := box4 H3.out.2.2.1; obtain ⟨f0, f1, f2, f3⟩ := box4f H3.out.2.2.1)
        | (go_at_call 37; (with_reducible refine (CC1.out _).mono ?_); rintro e w5 ⟨rfl, rfl⟩))
      have HF := Lib.hid (S4.fin (.int .u8 5) (.int .i64 0) (.string CCs) (.int .i32 0) H3.out)
      unfold set4 at HF
      clear x0 x1 x2 x3 f0 f1 f2 f3 
      generalize (((w3.setCell ⟨w.heap.size, 0, none⟩ (.int .u8 5)).setCell ⟨w.heap.size, 1, none⟩ (.int .i64 0)).setCell ⟨w.heap.size, 2, none⟩ (.string CCs)).setCell ⟨w.heap.size, 3, none⟩ (.int .i32 0) = W5 at *
      obtain ⟨⟨y0, y1, y2, y3⟩, yl⟩ := box4 HF.out.2.2.1
      refine bodyPost_ret (v := .tuple #[.agg #[.int .u8 5, .int .i64 0, .string CCs, .int .i32 0], .bool false]) (by simp [results, Tryz.results48, go_sem, y0, y1, y2, y3]) rfl ?_
      exact HE.out _ _ HF.out
  · have hmin : min (2 : Int) (n : Int) = 2 := by omega
    have hc1 : ∀ W : World, (Instr.slice 9 (.string (strOf (c :: r))) none (some (.int .i64 2)) none).run Tryz.prog W = .ok (.string (strOf ((c :: r).take 2))) W := HC.out 2 (by omega)
    have CT2 : Hid (∀ X, S4 w X b L p #[.int .u8 0, .int .i64 0, .string ⟨#[]⟩, .int .i32 0] → Calls Tryz.prog 58 #[.pointer (some ⟨b, 0, none⟩), .int .i64 2] X fun e w' => e = .returned (.string (strOf ((c :: r).take 2))) ∧ ReadR X w' b L (p + 2)) := Lib.hid (CT.out 2 (by omega))
    have CC2 : Hid (∀ W : World, Calls Tryz.prog 37 #[.string (strOf ((c :: r).take 2))] W fun e w' => e = .returned (.bool (isSym ((c :: r).take 2))) ∧ W = w') := Lib.hid fun W => CS.out _ W
    have q2 : (2 : Int) ≤ (n : Int) := by omega
    clear CT HC CS e1
    generalize hT : (c :: r).take 2 = T at *
    clear hT
    cases hs2 : isSym T with
    | true =>
      rw [hs2] at ht1 CC2
      rw [if_pos ⟨by omega, rfl⟩] at ht1
      have HE := Lib.hid (fun (W : World) (cs : Array Value) (H : S4 w W b L (p + 2) cs) => rdr_some ht1 H)
      clear ht1 hs2 CC1 CT1 h1n
      generalize strOf T = TT at *
      generalize strOf (c :: r) = S at *
      generalize RdR (L8.token (c :: r)) L p b w = P at *
      go_enter Tryz.func48, Tryz.ntmps48
      go_wp2_with (first
        | (go_at_call 59; (with_reducible refine (CR.out _ H0.out).mono ?_); rintro e w1 ⟨rfl, b1⟩; have H1 := Lib.hid (H0.out.below b1); clear b1 H0)
        | (go_at_call 59; (with_reducible refine (CR.out _ H1.out).mono ?_); rintro e w2 ⟨rfl, b1⟩; have H2 := Lib.hid (H1.out.below b1); clear b1 H1)
        | (go_at_call 58; (with_reducible refine (CT2.out _ H2.out).mono ?_); rintro e w3 ⟨rfl, r1⟩; have H3 := Lib.hid (H2.out.read r1); clear r1; obtain ⟨⟨x0, x1, x2, x3⟩, xl⟩ := box4 H3.out.2.2.1; obtain ⟨f0, f1, f2, f3⟩ := box4f H3.out.2.2.1)
        | (go_at_call 37; (with_reducible refine (CC2.out _).mono ?_); rintro e w5 ⟨rfl, rfl⟩))
      have HF := Lib.hid (S4.fin (.int .u8 5) (.int .i64 0) (.string TT) (.int .i32 0) H3.out)
      unfold set4 at HF
      clear x0 x1 x2 x3 f0 f1 f2 f3 
      generalize (((w3.setCell ⟨w.heap.size, 0, none⟩ (.int .u8 5)).setCell ⟨w.heap.size, 1, none⟩ (.int .i64 0)).setCell ⟨w.heap.size, 2, none⟩ (.string TT)).setCell ⟨w.heap.size, 3, none⟩ (.int .i32 0) = W5 at *
      obtain ⟨⟨y0, y1, y2, y3⟩, yl⟩ := box4 HF.out.2.2.1
      refine bodyPost_ret (v := .tuple #[.agg #[.int .u8 5, .int .i64 0, .string TT, .int .i32 0], .bool true]) (by simp [results, Tryz.results48, go_sem, y0, y1, y2, y3]) rfl ?_
      exact HE.out _ _ HF.out
    | false =>
      rw [hs2] at ht1 CC2
      rw [if_neg (fun k => absurd k.2 (by decide))] at ht1
      clear CT2 hs2 h1n
      cases hs : isSym [c] with
      | true =>
        rw [hs] at ht1 CC1
        rw [if_pos rfl] at ht1
        have HE := Lib.hid (fun (W : World) (cs : Array Value) (H : S4 w W b L (p + 1) cs) => rdr_some ht1 H)
        clear ht1 hs
        generalize strOf [c] = CCs at *
        generalize strOf T = TT at *
        generalize strOf (c :: r) = S at *
        generalize RdR (L8.token (c :: r)) L p b w = P at *
        go_enter Tryz.func48, Tryz.ntmps48
        go_wp2_with (first
          | (go_at_call 59; (with_reducible refine (CR.out _ H0.out).mono ?_); rintro e w1 ⟨rfl, b1⟩; have H1 := Lib.hid (H0.out.below b1); clear b1 H0)
          | (go_at_call 59; (with_reducible refine (CR.out _ H1.out).mono ?_); rintro e w2 ⟨rfl, b1⟩; have H2 := Lib.hid (H1.out.below b1); clear b1 H1)
          | (go_at_call 58; (with_reducible refine (CT1.out _ H2.out).mono ?_); rintro e w3 ⟨rfl, r1⟩; have H3 := Lib.hid (H2.out.read r1); clear r1; obtain ⟨⟨x0, x1, x2, x3⟩, xl⟩ := box4 H3.out.2.2.1; obtain ⟨f0, f1, f2, f3⟩ := box4f H3.out.2.2.1)
          | (go_at_call 37; (with_reducible refine (CC2.out _).mono ?_); rintro e w5 ⟨rfl, rfl⟩)
          | (go_at_call 37; (with_reducible refine (CC1.out _).mono ?_); rintro e w5 ⟨rfl, rfl⟩))
        have HF := Lib.hid (S4.fin (.int .u8 5) (.int .i64 0) (.string CCs) (.int .i32 0) H3.out)
        unfold set4 at HF
        clear x0 x1 x2 x3 f0 f1 f2 f3 
        generalize (((w3.setCell ⟨w.heap.size, 0, none⟩ (.int .u8 5)).setCell ⟨w.heap.size, 1, none⟩ (.int .i64 0)).setCell ⟨w.heap.size, 2, none⟩ (.string CCs)).setCell ⟨w.heap.size, 3, none⟩ (.int .i32 0) = W5 at *
        obtain ⟨⟨y0, y1, y2, y3⟩, yl⟩ := box4 HF.out.2.2.1
        refine bodyPost_ret (v := .tuple #[.agg #[.int .u8 5, .int .i64 0, .string CCs, .int .i32 0], .bool true]) (by simp [results, Tryz.results48, go_sem, y0, y1, y2, y3]) rfl ?_
        exact HE.out _ _ HF.out
      | false =>
        rw [hs] at ht1 CC1
        rw [if_neg (by decide)] at ht1
        have HE := Lib.hid (fun (W : World) (cs : Array Value) (H : S4 w W b L (p + 1) cs) => rdr_none (k := 5) (tx := strOf [c]) (v := 0) (p := p) ht1 H)
        clear ht1 hs
        generalize strOf [c] = CCs at *
        generalize strOf T = TT at *
        generalize strOf (c :: r) = S at *
        generalize RdR (L8.token (c :: r)) L p b w = P at *
        go_enter Tryz.func48, Tryz.ntmps48
        go_wp2_with (first
          | (go_at_call 59; (with_reducible refine (CR.out _ H0.out).mono ?_); rintro e w1 ⟨rfl, b1⟩; have H1 := Lib.hid (H0.out.below b1); clear b1 H0)
          | (go_at_call 59; (with_reducible refine (CR.out _ H1.out).mono ?_); rintro e w2 ⟨rfl, b1⟩; have H2 := Lib.hid (H1.out.below b1); clear b1 H1)
          | (go_at_call 58; (with_reducible refine (CT1.out _ H2.out).mono ?_); rintro e w3 ⟨rfl, r1⟩; have H3 := Lib.hid (H2.out.read r1); clear r1; obtain ⟨⟨x0, x1, x2, x3⟩, xl⟩ := box4 H3.out.2.2.1; obtain ⟨f0, f1, f2, f3⟩ := box4f H3.out.2.2.1)
          | (go_at_call 37; (with_reducible refine (CC2.out _).mono ?_); rintro e w5 ⟨rfl, rfl⟩)
          | (go_at_call 37; (with_reducible refine (CC1.out _).mono ?_); rintro e w5 ⟨rfl, rfl⟩))
        have HF := Lib.hid (S4.fin (.int .u8 5) (.int .i64 0) (.string CCs) (.int .i32 0) H3.out)
        unfold set4 at HF
        clear x0 x1 x2 x3 f0 f1 f2 f3 
        generalize (((w3.setCell ⟨w.heap.size, 0, none⟩ (.int .u8 5)).setCell ⟨w.heap.size, 1, none⟩ (.int .i64 0)).setCell ⟨w.heap.size, 2, none⟩ (.string CCs)).setCell ⟨w.heap.size, 3, none⟩ (.int .i32 0) = W5 at *
        obtain ⟨⟨y0, y1, y2, y3⟩, yl⟩ := box4 HF.out.2.2.1
        refine bodyPost_ret (v := .tuple #[.agg #[.int .u8 5, .int .i64 0, .string CCs, .int .i32 0], .bool false]) (by simp [results, Tryz.results48, go_sem, y0, y1, y2, y3]) rfl ?_
        exact HE.out _ _ HF.out
end Go.Proofs.YtbkbhlbfkfnljaaGreatDoor
/- The reference: the token with which a text begins. -/
set_option linter.unusedVariables false
set_option linter.unusedSimpArgs false
namespace Go.Proofs.YtbkbhlbfkfnljaaGreatDoor
open Go Go.RowKit L8

def TR (o : Option (Nat × Bs × Int × Nat)) (e : Ending) : Prop := match o with
  | some (k, tx, v, n) => e = .returned (.tuple #[.agg #[.int .u8 (k : Int), .int .i64 0, .string (strOf tx), .int .i32 v], .int .i64 (n : Int)])
  | none => e = .returned (.tuple #[.agg #[.int .u8 0, .int .i64 0, .string ⟨#[]⟩, .int .i32 0], .int .i64 0])
theorem run_is {c : UInt8} {r : Bs} {m : Nat} (h1 : 1 ≤ m) (h2 : m ≤ (c :: r).length) (h : ∀ j, 1 ≤ j → j < m → wordB ((c :: r).getD j 0) = true) (hx : m = (c :: r).length ∨ wordB ((c :: r).getD m 0) = false) : 1 + wrun r = m := by
  obtain ⟨m, rfl⟩ : ∃ k, m = k + 1 := ⟨m - 1, by omega⟩
  simp only [List.length_cons] at h2 hx
  have ha : (r.take m).all wordB = true := by
    rw [List.all_eq_true]
    intro d hd
    obtain ⟨i, hi, e⟩ := List.getElem_of_mem hd
    rw [List.length_take] at hi
    have := h (i + 1) (by omega) (by omega)
    rw [List.getD_cons_succ] at this
    rw [← e, List.getElem_take]
    have e2 : r.getD i 0 = r[i] := by simp [show i < r.length by omega]
    rw [← e2]; exact this
  have hb : ∀ d, (r.drop m).head? = some d → wordB d = false := by
    intro d hd
    rw [List.head?_drop] at hd
    have hm : m < r.length := by
      have := (List.getElem?_eq_some_iff.1 hd).1
      exact this
    rcases hx with hx | hx
    · omega
    · rw [List.getD_cons_succ] at hx
      have e2 : r.getD m 0 = d := by simp [hd]
      rw [← e2]; exact hx
  have h3 := wrun_of ha hb
  rw [List.take_append_drop, List.length_take] at h3
  omega
theorem tkeep {w X Y : World} {cs : Array Value} (h : Below w.heap.size w X ∧ BoxS X w.heap.size 39 cs) (b : Below X.heap.size X Y) : Below w.heap.size w Y ∧ BoxS Y w.heap.size 39 cs := ⟨blw h.1 b, h.2.below b⟩
end Go.Proofs.YtbkbhlbfkfnljaaGreatDoor
/- The reference: equal lists of tokens. -/
set_option linter.unusedVariables false
set_option linter.unusedSimpArgs false
namespace Go.Proofs.YtbkbhlbfkfnljaaGreatDoor
open Go Go.RowKit L8

theorem kern_get {xs : List Tk} {j : Nat} (h : j < xs.length) : (kern xs)[j]? = some ((xs.getD j r0).k, (xs.getD j r0).tx, (xs.getD j r0).n) := by simp [kern, h]
theorem kern_ext {xs ys : List Tk} (hl : xs.length = ys.length) (h : ∀ j, j < xs.length → (xs.getD j r0).k = (ys.getD j r0).k ∧ (xs.getD j r0).tx = (ys.getD j r0).tx ∧ (xs.getD j r0).n = (ys.getD j r0).n) : kern xs = kern ys := by
  apply List.ext_getElem?
  intro i
  by_cases hi : i < xs.length
  · obtain ⟨h1, h2, h3⟩ := h i hi
    rw [kern_get hi, kern_get (by omega), h1, h2, h3]
  · rw [List.getElem?_eq_none (by simp [kern]; omega), List.getElem?_eq_none (by simp [kern]; omega)]
theorem int_neq (a b : Int) : (a != b) = !decide (a = b) := by by_cases h : a = b <;> simp [h]
theorem nat_neq (a b : Nat) : ((a : Int) != (b : Int)) = !decide (a = b) := by by_cases h : a = b <;> simp [h] <;> omega
end Go.Proofs.YtbkbhlbfkfnljaaGreatDoor
/- The reference: the tokens of a line. -/
set_option linter.unusedVariables false
set_option linter.unusedSimpArgs false
namespace Go.Proofs.YtbkbhlbfkfnljaaGreatDoor
open Go Go.RowKit L8

theorem may_okx {t : Tk} (h : may t = true) (hn : OKn t) : OKx t := by
  have hk : ∀ s ∈ keys, s.length ≤ 20 := by decide
  have hs : ∀ s ∈ syms, s.length ≤ 20 := by decide
  obtain ⟨_, _, hp⟩ := may_parts h
  have e : t.tx.length ≤ 40 ∧ t.k < 256 := by
    rcases hp with ⟨h1, h2, _⟩ | ⟨h1, h2, _⟩ | ⟨h1, h2⟩ | ⟨h1, h2, _⟩ | ⟨h1, h2, _⟩
    · unfold isName at h2
      simp only [Bool.and_eq_true, decide_eq_true_eq] at h2
      omega
    · have := hk _ (isKey_mem h2); omega
    · rw [h2]; simp; omega
    · rw [h2]; simp; omega
    · have := hs _ (isSym_mem h2); omega
  exact ⟨by unfold maxLen; omega, e.2, hn.1, hn.2⟩
/-- What Tokens gives. -/
def GivesT (w : World) (s : Bs) (e : Ending) (w' : World) : Prop := ∃ A c, e = .returned (.tuple #[.slice A (tokens s).1.length c, .int .i64 (tokens s).2.1, .int .i64 (tokens s).2.2]) ∧ OwnR w' 39 w.heap.size A (tokens s).1.length c (tokens s).1 ∧ Below w.heap.size w w'
theorem tokens_long {s : Bs} (h : 256 < s.length) : tokens s = ([], 0, 3) := by unfold tokens; rw [if_pos h]
theorem tokens_err {s : Bs} {p : Nat} (h : ¬ 256 < s.length) (ht : toks s 0 = .error p) : tokens s = ([], (p : Int), 80) := by unfold tokens; rw [if_neg h, ht]
theorem tokens_ok {s : Bs} {l : List Tk} (h : ¬ 256 < s.length) (ht : toks s 0 = .ok l) : tokens s = (l, 0, 0) := by unfold tokens; rw [if_neg h, ht]
theorem givesT_err {w w' : World} {s : Bs} {n e : Int} (h : tokens s = ([], n, e)) (hb : Below w.heap.size w w') : GivesT w s (.returned (.tuple #[.slice none 0 0, .int .i64 n, .int .i64 e])) w' := by
  unfold GivesT
  rw [h]
  exact ⟨none, 0, rfl, ownR_nil w' _ _, hb⟩
def addT (out : List Tk) : Except Nat (List Tk) → Except Nat (List Tk)
  | .error e => .error e
  | .ok l => .ok (out ++ l)
theorem addT_snoc (out : List Tk) (x : Tk) (q : Except Nat (List Tk)) : addT out (match q with | .error e => .error e | .ok l => .ok (x :: l)) = addT (out ++ [x]) q := by
  cases q with
  | error e => rfl
  | ok l => simp [addT]
end Go.Proofs.YtbkbhlbfkfnljaaGreatDoor
