/- The tokens of the text of tokens are these tokens. Plain Lean. -/
import Derived.Test.YtblckajejohlbaaDoorLxb
set_option linter.unusedVariables false
set_option linter.unusedSimpArgs false
set_option linter.unusedVariables false
set_option linter.unusedSimpArgs false
namespace Go.Proofs.YtblckajejohlbaaDoor.L8
open Go

def OKn (t : Tk) : Prop := -2147483648 ≤ t.n ∧ t.n ≤ 2147483647
theorem key_facts : ∀ s ∈ keys, letter (s.headD 0) = true ∧ s.all wordB = true ∧ 1 ≤ s.length := by decide
theorem sym_facts : ∀ s ∈ syms, (s.length = 1 ∨ s.length = 2) ∧ letter (s.headD 0) = false ∧ digit (s.headD 0) = false ∧ s.headD 0 ≠ 35 ∧ s.headD 0 ≠ 39 ∧ s.headD 0 ≠ 32 := by decide
theorem sym_two : ∀ s ∈ syms, s.length = 2 → s.headD 0 ≠ 40 ∧ s.headD 0 ≠ 91 ∧ s.getD 1 0 ≠ 44 ∧ s.getD 1 0 ≠ 59 ∧ s.getD 1 0 ≠ 58 ∧ s.getD 1 0 ≠ 41 ∧ s.getD 1 0 ≠ 93 := by decide
theorem isKey_mem {s : Bs} (h : isKey s = true) : s ∈ keys := by unfold isKey at h; simpa using h
theorem isSym_mem {s : Bs} (h : isSym s = true) : s ∈ syms := by unfold isSym at h; simpa using h
theorem pair_no {c d : UInt8} (h : c = 40 ∨ c = 91 ∨ d = 44 ∨ d = 59 ∨ d = 58 ∨ d = 41 ∨ d = 93) : isSym [c, d] = false := by
  cases hs : isSym [c, d] with
  | false => rfl
  | true =>
    obtain ⟨h1, h2, h3, h4, h5, h6, h7⟩ := sym_two _ (isSym_mem hs) rfl
    rcases h with h | h | h | h | h | h | h
    · exact absurd h h1
    · exact absurd h h2
    · exact absurd h h3
    · exact absurd h h4
    · exact absurd h h5
    · exact absurd h h6
    · exact absurd h h7
/-! ### Numbers -/
theorem numL_of {base : Nat} : ∀ (l : Bs) (n : Nat) {m : Nat}, natL base l n = some m → numL base l n = some m
  | [], n, m, h => h
  | c :: cs, n, m, h => by
    unfold natL at h
    unfold numL
    cases hd : dval base c with
    | none => rw [hd] at h; cases h
    | some d =>
      rw [hd] at h
      dsimp only at h ⊢
      split at h
      · cases h
      · exact numL_of cs _ h
theorem hexDg_word (d : Nat) (h : d < 16) : wordB (hexDg d) = true := by
  have : ∀ d : Fin 16, wordB (hexDg d.val) = true := by decide
  exact this ⟨d, h⟩
theorem hexDigs_word : ∀ n t, (hexDigs n t).all wordB = true
  | 0, _ => rfl
  | n + 1, t => by
    unfold hexDigs
    rw [List.all_append, hexDigs_word n, List.all_cons, hexDg_word _ (Nat.mod_lt _ (by decide))]
    rfl
theorem decDigits_all (t : Nat) : (Lib.decDigits t).all digit = true := by
  induction t using Nat.strongRecOn with
  | _ t ih =>
    have hd : ∀ d, d < 10 → digit (UInt8.ofNat (48 + d)) = true := fun d h => by
      have : ∀ d : Fin 10, digit (UInt8.ofNat (48 + d.val)) = true := by decide
      exact this ⟨d, h⟩
    rw [Lib.decDigits]
    by_cases h : t < 10
    · rw [dif_pos h, List.all_cons, hd t h]; rfl
    · rw [dif_neg h, List.all_append, ih (t / 10) (by omega), List.all_cons, hd _ (Nat.mod_lt _ (by decide))]; rfl
theorem digit_word {c : UInt8} (h : digit c = true) : wordB c = true := by unfold wordB; rw [h]; simp
theorem all_digit_word {l : Bs} (h : l.all digit = true) : l.all wordB = true := by
  rw [List.all_eq_true] at h ⊢
  exact fun c hc => digit_word (h c hc)
theorem digit_noletter {c : UInt8} (h : digit c = true) : letter c = false ∧ c ≠ 32 := by
  have : ∀ c : Fin 256, digit (UInt8.ofNat c.val) = true → letter (UInt8.ofNat c.val) = false ∧ UInt8.ofNat c.val ≠ 32 := by decide +kernel
  have h2 := this ⟨c.toNat, UInt8.toNat_lt c⟩
  simp only [UInt8.ofNat_toNat] at h2
  exact h2 h
theorem letter_no32 {c : UInt8} (h : letter c = true) : c ≠ 32 := by rintro rfl; cases h
theorem value_dec {t : Nat} (h : t < 2147483648) : value 10 10 2147483648 (Lib.decDigits t) = some t := by
  obtain ⟨c, cs, e, _⟩ := decDigits_head t
  have h1 : 1 ≤ (Lib.decDigits t).length := by rw [e]; simp
  have h2 := decDigits_len t
  unfold value
  rw [if_neg (by omega), numL_of _ _ (natL_dec t (by omega))]
  dsimp only
  rw [if_pos h]
theorem value_hex (v : Int) : value 16 8 4294967296 (hexDigs 8 (uns v)) = some (uns v) := by
  have h1 := hexDigs_length 8 (uns v)
  unfold value
  rw [if_neg (by omega), numL_of _ _ (natL_text_hex v)]
  dsimp only
  rw [if_pos (uns_lt v)]
/-! ### A token's text is read as the token -/
def stops (t : Tk) (x : Bs) : Prop := (t.k = 1 ∨ t.k = 2 ∨ t.k = 3 → ∀ c, x.head? = some c → wordB c = false) ∧ (t.k = 5 → t.tx.length = 1 → ∀ c, x.head? = some c → isSym (t.tx ++ [c]) = false)
theorem token_run {c : UInt8} {u x : Bs} (hu : u.all wordB = true) (hx : ∀ d, x.head? = some d → wordB d = false) : 1 + wrun (u ++ x) = (c :: u).length ∧ (c :: (u ++ x)).take (1 + wrun (u ++ x)) = c :: u := by
  have h := wrun_of hu hx
  refine ⟨by rw [h, List.length_cons]; omega, ?_⟩
  rw [h, Nat.add_comm, List.take_succ_cons, take_left]
theorem byte_quoted (v : Nat) (h : v < 256) : quoted (39 :: (shown (v : Int) ++ [39])) = some (v, (39 :: (shown (v : Int) ++ [39])).length) := by
  have : ∀ v : Fin 256, quoted (39 :: (shown (v.val : Int) ++ [39])) = some (v.val, (39 :: (shown (v.val : Int) ++ [39])).length) := by decide +kernel
  exact this ⟨v, h⟩
theorem may_parts {t : Tk} (h : may t = true) : 0 ≤ t.a ∧ t.a ≤ 255 ∧ ((t.k = 1 ∧ isName t.tx = true ∧ t.n = 0) ∨ (t.k = 2 ∧ isKey t.tx = true ∧ t.n = 0) ∨ (t.k = 3 ∧ t.tx = []) ∨ (t.k = 4 ∧ t.tx = [] ∧ 0 ≤ t.n ∧ t.n ≤ 255) ∨ (t.k = 5 ∧ isSym t.tx = true ∧ t.n = 0)) := by
  unfold may at h
  simp only [Bool.and_eq_true, decide_eq_true_eq] at h
  obtain ⟨⟨h1, h2⟩, h3⟩ := h
  refine ⟨h1, h2, ?_⟩
  split at h3
  · rename_i e; simp only [Bool.and_eq_true, decide_eq_true_eq] at h3; exact .inl ⟨e, h3.1, h3.2⟩
  · rename_i e; simp only [Bool.and_eq_true, decide_eq_true_eq] at h3; exact .inr (.inl ⟨e, h3.1, h3.2⟩)
  · rename_i e; exact .inr (.inr (.inl ⟨e, by simpa using h3⟩))
  · rename_i e; simp only [Bool.and_eq_true, decide_eq_true_eq] at h3; exact .inr (.inr (.inr (.inl ⟨e, by simpa using h3.1.1, h3.1.2, h3.2⟩)))
  · rename_i e; simp only [Bool.and_eq_true, decide_eq_true_eq] at h3; exact .inr (.inr (.inr (.inr ⟨e, h3.1, h3.2⟩)))
  · cases h3
theorem name_parts {s : Bs} (h : isName s = true) : ∃ c u, s = c :: u ∧ letter c = true ∧ isKey s = false ∧ s.all wordB = true := by
  have h0 := h
  unfold isName at h
  simp only [Bool.and_eq_true, decide_eq_true_eq, Bool.not_eq_true'] at h
  obtain ⟨⟨⟨⟨h1, h2⟩, h3⟩, h4⟩, h5⟩ := h
  cases s with
  | nil => simp at h1
  | cons c u => exact ⟨c, u, rfl, h3, h4, h5⟩
theorem token_one {t : Tk} (h : may t = true) (hn : OKn t) {x : Bs} (hs : stops t x) : (∃ c u, one t = c :: u ∧ c ≠ 32) ∧ token (one t ++ x) = some (t.k, t.tx, t.n, (one t).length) := by
  obtain ⟨k, a, tx, n⟩ := t
  obtain ⟨_, _, hp⟩ := may_parts h
  dsimp only at hp
  unfold OKn at hn
  unfold stops at hs
  dsimp only at hn hs
  rcases hp with ⟨rfl, h1, rfl⟩ | ⟨rfl, h1, rfl⟩ | ⟨rfl, rfl⟩ | ⟨rfl, rfl, h1, h2⟩ | ⟨rfl, h1, rfl⟩
  · obtain ⟨c, u, rfl, h2, h3, h4⟩ := name_parts h1
    have ho : one ⟨1, a, c :: u, 0⟩ = c :: u := rfl
    rw [ho]
    refine ⟨⟨c, u, rfl, letter_no32 h2⟩, ?_⟩
    rw [List.all_cons, Bool.and_eq_true] at h4
    obtain ⟨e1, e2⟩ := token_run (c := c) h4.2 (hs.1 (.inl rfl))
    rw [List.cons_append, token_word h2, e2, if_neg (by rw [h3]; decide), if_pos h1, e1]
  · obtain ⟨h2, h3, h4⟩ := key_facts _ (isKey_mem h1)
    cases tx with
    | nil => simp at h4
    | cons c u =>
      have ho : one ⟨2, a, c :: u, 0⟩ = c :: u := rfl
      rw [ho]
      change letter c = true at h2
      refine ⟨⟨c, u, rfl, letter_no32 h2⟩, ?_⟩
      rw [List.all_cons, Bool.and_eq_true] at h3
      obtain ⟨e1, e2⟩ := token_run (c := c) h3.2 (hs.1 (.inr (.inl rfl)))
      rw [List.cons_append, token_word h2, e2, if_pos h1, e1]
  · have ho : one ⟨3, a, [], n⟩ = textL n (decide (n < 0)) := rfl
    rw [ho]
    unfold textL
    by_cases hneg : n < 0
    · rw [decide_eq_true hneg, if_pos rfl]
      refine ⟨⟨35, _, rfl, by decide⟩, ?_⟩
      obtain ⟨e1, e2⟩ := token_run (c := 35) (hexDigs_word 8 (uns n)) (hs.1 (.inr (.inr rfl)))
      rw [List.cons_append, token_hex, e2]
      have e3 : ((35 : UInt8) :: hexDigs 8 (uns n)).drop 1 = hexDigs 8 (uns n) := rfl
      rw [e3, value_hex]
      dsimp only
      rw [uns_red n hn.1 hn.2, e1]
    · rw [decide_eq_false hneg, if_neg (by decide)]
      obtain ⟨m, rfl⟩ := Int.eq_ofNat_of_zero_le (show 0 ≤ n by omega)
      have hi : Lib.itoa (m : Int) = Lib.decDigits m := by unfold Lib.itoa; rw [if_neg (by omega)]; simp
      rw [hi]
      have hall := decDigits_all m
      have hv := value_dec (t := m) (by omega)
      obtain ⟨c, u, e, _⟩ := decDigits_head m
      rw [e] at hall hv ⊢
      rw [List.all_cons, Bool.and_eq_true] at hall
      obtain ⟨g1, g2⟩ := digit_noletter hall.1
      refine ⟨⟨c, u, rfl, g2⟩, ?_⟩
      obtain ⟨e1, e2⟩ := token_run (c := c) (all_digit_word hall.2) (hs.1 (.inr (.inr rfl)))
      rw [List.cons_append, token_num g1 hall.1, e2, hv]
      dsimp only
      rw [e1]
  · have ho : one ⟨4, a, [], n⟩ = 39 :: (shown n ++ [39]) := rfl
    rw [ho]
    refine ⟨⟨39, _, rfl, by decide⟩, ?_⟩
    obtain ⟨m, rfl⟩ := Int.eq_ofNat_of_zero_le h1
    have hq := quoted_pre (v := x) (byte_quoted m (by omega))
    rw [List.cons_append, token_quo, ← List.cons_append, hq]
  · obtain ⟨g1, g2, g3, g4, g5, g6⟩ := sym_facts _ (isSym_mem h1)
    have ho : one ⟨5, a, tx, 0⟩ = tx := rfl
    rw [ho]
    cases tx with
    | nil => simp at g1
    | cons c u =>
      change letter c = false at g2
      change digit c = false at g3
      change c ≠ 35 at g4
      change c ≠ 39 at g5
      refine ⟨⟨c, u, rfl, g6⟩, ?_⟩
      rw [List.cons_append, token_sym g2 g3 g4 g5]
      cases u with
      | nil =>
        have hno : ¬ (1 < (c :: ([] ++ x)).length ∧ isSym ((c :: ([] ++ x)).take 2) = true) := by
          rintro ⟨k1, k2⟩
          cases x with
          | nil => simp at k1
          | cons d x =>
            have h5 := hs.2 rfl rfl d rfl
            have : isSym [c, d] = true := k2
            have h6 : isSym [c, d] = false := h5
            rw [h6] at this
            cases this
        rw [if_neg hno, if_pos h1]
        rfl
      | cons d u =>
        obtain rfl : u = [] := by
          simp only [List.length_cons] at g1
          exact List.eq_nil_of_length_eq_zero (by omega)
        rw [if_pos ⟨by simp, by show isSym [c, d] = true; exact h1⟩]
        rfl
/-! ### All of them -/
theorem opens_is {t : Tk} (h : opens t = true) : t.k = 5 ∧ (t.tx = [40] ∨ t.tx = [91]) := by
  unfold opens at h
  simpa using h
theorem closes_is {t : Tk} (h : closes t = true) : t.k = 5 ∧ (t.tx = [44] ∨ t.tx = [59] ∨ t.tx = [58] ∨ t.tx = [41] ∨ t.tx = [93]) := by
  unfold closes at h
  simpa [or_assoc] using h
theorem one_sym {t : Tk} (h : t.k = 5) : one t = t.tx := by unfold one; rw [h]; rfl
theorem stops_behind {a : Tk} {r : List Tk} : stops a (behind a r) := by
  cases r with
  | nil => exact ⟨(fun _ c hc => by cases hc), (fun _ _ c hc => by cases hc)⟩
  | cons b r =>
    unfold behind
    by_cases hn : near a b = true
    · rw [if_pos hn]
      unfold near at hn
      simp only [Bool.or_eq_true, Bool.and_eq_true, decide_eq_true_eq] at hn
      rcases hn with (⟨ho, hk⟩ | ho) | hc
      · obtain ⟨h5, ht⟩ := opens_is ho
        rw [one_sym h5]
        refine ⟨fun _ c hc => ?_, fun h => by omega⟩
        rcases ht with e | e <;> (rw [e] at hc; injection hc with hc; subst hc; decide)
      · obtain ⟨h5, ht⟩ := opens_is ho
        refine ⟨fun h => by omega, fun _ _ c _ => ?_⟩
        rcases ht with e | e
        · rw [e]; exact pair_no (.inl rfl)
        · rw [e]; exact pair_no (.inr (.inl rfl))
      · obtain ⟨h5, ht⟩ := closes_is hc
        rw [one_sym h5]
        refine ⟨fun _ c hc => ?_, fun _ hl c hc => ?_⟩
        · rcases ht with e | e | e | e | e <;> (rw [e] at hc; injection hc with hc; subst hc; decide)
        · obtain ⟨d, hd⟩ : ∃ d, a.tx = [d] := by
            cases hx : a.tx with
            | nil => rw [hx] at hl; cases hl
            | cons d u =>
              rw [hx] at hl
              simp only [List.length_cons] at hl
              exact ⟨d, by rw [List.eq_nil_of_length_eq_zero (show u.length = 0 by omega)]⟩
          rw [hd]
          rcases ht with e | e | e | e | e <;> (rw [e] at hc; injection hc with hc; subst hc; exact pair_no (by simp))
    · rw [if_neg hn]
      refine ⟨fun _ c hc => ?_, fun _ hl c hc => ?_⟩
      · injection hc with hc; subst hc; decide
      · injection hc with hc
        subst hc
        cases hx : a.tx with
        | nil => rw [hx] at hl; cases hl
        | cons d u =>
          rw [hx] at hl
          simp only [List.length_cons] at hl
          rw [List.eq_nil_of_length_eq_zero (show u.length = 0 by omega)]
          exact sym_no32 d
/-- The tokens at their places in their text. -/
def gap (a b : Tk) : Nat := if near a b = true then 0 else 1
def putB : Nat → Tk → List Tk → List Tk
  | _, _, [] => []
  | p, a, b :: r => ⟨b.k, ((p + gap a b : Nat) : Int), b.tx, b.n⟩ :: putB (p + gap a b + (one b).length) b r
def put (p : Nat) : List Tk → List Tk
  | [] => []
  | t :: r => ⟨t.k, (p : Int), t.tx, t.n⟩ :: putB (p + (one t).length) t r
theorem toks_one {a : Tk} (h : may a = true) (hn : OKn a) {x : Bs} (hs : stops a x) (p : Nat) : toks (one a ++ x) p = match toks x (p + (one a).length) with | .error e => .error e | .ok l => .ok (⟨a.k, p, a.tx, a.n⟩ :: l) := by
  obtain ⟨⟨c, u, e, hc⟩, ht⟩ := token_one h hn hs
  rw [e] at ht ⊢
  rw [List.cons_append] at ht ⊢
  rw [toks_tok hc ht]
  have : (c :: (u ++ x)).drop (c :: u).length = x := by rw [← List.cons_append, List.drop_left]
  rw [this]
  cases toks x (p + (c :: u).length) <;> rfl
theorem toks_from : ∀ (r : List Tk) (a : Tk) (p : Nat), may a = true → OKn a → (∀ t ∈ r, may t = true ∧ OKn t) → toks (one a ++ behind a r) p = .ok (⟨a.k, p, a.tx, a.n⟩ :: putB (p + (one a).length) a r) := by
  intro r
  induction r with
  | nil =>
    intro a p h hn _
    rw [toks_one h hn stops_behind]
    have : toks (behind a []) (p + (one a).length) = .ok [] := toks_nil _
    rw [this]
    rfl
  | cons b r ih =>
    intro a p h hn hr
    have hb := hr b (List.mem_cons_self ..)
    rw [toks_one h hn stops_behind]
    have hi := fun q => ih b q hb.1 hb.2 (fun t ht => hr t (List.mem_cons_of_mem _ ht))
    have : toks (behind a (b :: r)) (p + (one a).length) = .ok (putB (p + (one a).length) a (b :: r)) := by
      unfold behind putB gap
      by_cases hx : near a b = true
      · rw [if_pos hx, if_pos hx, Nat.add_zero]
        exact hi _
      · rw [if_neg hx, if_neg hx, List.cons_append, toks_sp]
        exact hi _
    rw [this]
/-- The stage's theorem. -/
theorem toks_back {l : List Tk} (h : ∀ t ∈ l, may t = true ∧ OKn t) : toks (textT l) 0 = .ok (put 0 l) := by
  cases l with
  | nil => exact toks_nil 0
  | cons t r =>
    have ht := h t (List.mem_cons_self ..)
    have := toks_from r t 0 ht.1 ht.2 (fun t ht => h t (List.mem_cons_of_mem _ ht))
    exact this
end Go.Proofs.YtblckajejohlbaaDoor.L8
