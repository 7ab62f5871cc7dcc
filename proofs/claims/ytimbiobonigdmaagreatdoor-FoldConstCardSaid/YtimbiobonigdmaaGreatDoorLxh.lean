/- What the program reads: numbers by canonical texts, characters from the left. Plain Lean. -/
import Derived.Test.YtimbiobonigdmaaGreatDoorLxe
set_option linter.unusedVariables false
set_option linter.unusedSimpArgs false
set_option linter.unusedVariables false
set_option linter.unusedSimpArgs false
namespace Go.Proofs.YtimbiobonigdmaaGreatDoor.L8
open Go

/-! ### A text determines its digits -/
theorem numL_snoc (base : Nat) (c : UInt8) : ∀ (l : Bs) (n : Nat), numL base (l ++ [c]) n = (numL base l n).bind fun m => (dval base c).map fun d => m * base + d
  | [], n => by
    rw [List.nil_append]
    cases h : dval base c with
    | none => simp [numL, h]
    | some d => simp [numL, h]
  | x :: l, n => by
    rw [List.cons_append, numL, numL]
    cases h : dval base x with
    | none => rfl
    | some d => exact numL_snoc base c l _
theorem dec_dig {c : UInt8} {d : Nat} (h : dval 10 c = some d) : d < 10 ∧ UInt8.ofNat (48 + d) = c := by
  have hlt := dval_lt (.inl rfl) h
  have := (hexDg_dval (.inl rfl) hlt c).2 h
  rw [hexDg_small hlt] at this
  exact ⟨hlt, UInt8.toNat_inj.1 this⟩
theorem dec_uniq : ∀ (N : Nat) (l : Bs) (v : Nat), l.length ≤ N → l ≠ [] → (l.headD 0 ≠ 48 ∨ l.length = 1) → numL 10 l 0 = some v → Lib.decDigits v = l := by
  intro N
  induction N with
  | zero => intro l v h h0 _ _; exact absurd (List.eq_nil_of_length_eq_zero (by omega)) h0
  | succ N ih =>
    intro l v hl h0 hz hv
    obtain ⟨l', c, rfl⟩ : ∃ l' c, l = l' ++ [c] := ⟨l.dropLast, l.getLast h0, (List.dropLast_concat_getLast h0).symm⟩
    rw [numL_snoc] at hv
    cases hm : numL 10 l' 0 with
    | none => rw [hm] at hv; cases hv
    | some m =>
      rw [hm] at hv
      cases hd : dval 10 c with
      | none => rw [hd] at hv; cases hv
      | some d =>
        rw [hd] at hv
        have hv : m * 10 + d = v := by simpa using hv
        obtain ⟨hd10, hc⟩ := dec_dig hd
        cases l' with
        | nil =>
          injection hm with hm
          subst hm
          obtain rfl : d = v := by omega
          rw [Lib.decDigits, dif_pos hd10, hc]
          rfl
        | cons x l'' =>
          have hx : x ≠ 48 := by
            rcases hz with hz | hz
            · exact hz
            · simp at hz
          have hi := ih (x :: l'') m (by simp only [List.length_append, List.length_cons, List.length_nil] at hl ⊢; omega) (by simp) (.inl hx) hm
          have hm0 : m ≠ 0 := by
            rintro rfl
            rw [Lib.decDigits, dif_pos (by decide)] at hi
            injection hi with hi _
            exact hx hi.symm
          rw [Lib.decDigits, dif_neg (by omega), show v / 10 = m by omega, show v % 10 = d by omega, hi, hc]
theorem hex_dig {c : UInt8} {d : Nat} (h : dval 16 c = some d) : d < 16 ∧ hexDg d = c := by
  have hlt := dval_lt (.inr rfl) h
  exact ⟨hlt, UInt8.toNat_inj.1 ((hexDg_dval (.inr rfl) hlt c).2 h)⟩
theorem hex_uniq : ∀ (n : Nat) (l : Bs) (v : Nat), l.length = n → numL 16 l 0 = some v → hexDigs n v = l ∧ v < 16 ^ n := by
  intro n
  induction n with
  | zero =>
    intro l v hl hv
    obtain rfl := List.eq_nil_of_length_eq_zero hl
    injection hv with hv
    subst hv
    exact ⟨rfl, by decide⟩
  | succ n ih =>
    intro l v hl hv
    have h0 : l ≠ [] := by rintro rfl; cases hl
    obtain ⟨l', c, rfl⟩ : ∃ l' c, l = l' ++ [c] := ⟨l.dropLast, l.getLast h0, (List.dropLast_concat_getLast h0).symm⟩
    rw [numL_snoc] at hv
    cases hm : numL 16 l' 0 with
    | none => rw [hm] at hv; cases hv
    | some m =>
      rw [hm] at hv
      cases hd : dval 16 c with
      | none => rw [hd] at hv; cases hv
      | some d =>
        rw [hd] at hv
        have hv : m * 16 + d = v := by simpa using hv
        obtain ⟨hd16, hc⟩ := hex_dig hd
        obtain ⟨hi, hlt⟩ := ih l' m (by simpa using hl) hm
        refine ⟨?_, by rw [Nat.pow_succ]; omega⟩
        rw [hexDigs, show v / 16 = m by omega, show v % 16 = d by omega, hi, hc]
/-! ### Numbers -/
def canon (l : Bs) : Bs := if cut0 l = [] then [48] else cut0 l
theorem cut0_head : ∀ l : Bs, cut0 l = [] ∨ (cut0 l).headD 0 ≠ 48
  | [] => .inl rfl
  | c :: l => by
    unfold cut0
    by_cases h : c = 48
    · rw [if_pos h]; exact cut0_head l
    · rw [if_neg h]; exact .inr h
theorem canon_num (l : Bs) : numL 10 (canon l) 0 = numL 10 l 0 := by
  have h := numL_cut0 (base := 10) [] l
  rw [List.append_nil, List.append_nil] at h
  unfold canon
  by_cases hc : cut0 l = []
  · rw [if_pos hc, ← h, hc]; rfl
  · rw [if_neg hc, h]
theorem canon_head (l : Bs) : canon l ≠ [] ∧ ((canon l).headD 0 ≠ 48 ∨ (canon l).length = 1) := by
  unfold canon
  by_cases hc : cut0 l = []
  · rw [if_pos hc]; exact ⟨by simp, .inr rfl⟩
  · rw [if_neg hc]; exact ⟨hc, (cut0_head l).elim (fun h => absurd h hc) .inl⟩
theorem canon_word {l : Bs} (h : l.all wordB = true) : (canon l).all wordB = true := by
  unfold canon
  by_cases hc : cut0 l = []
  · rw [if_pos hc]; decide
  · rw [if_neg hc]; exact cut0_all h
theorem text_pos {v : Int} (h : ¬ v < 0) : textL v false = Lib.decDigits v.toNat := by unfold textL Lib.itoa; simp [h]
theorem text_neg {v : Int} (h : v < 0) : textL v false = 45 :: Lib.decDigits v.natAbs := by unfold textL Lib.itoa; simp [h]
theorem text_hex (v : Int) : textL v true = 35 :: hexDigs 8 (uns v) := by unfold textL; simp
theorem dec_read {l : Bs} (h0 : l ≠ []) (h10 : l.length ≤ 10) (hw : l.all wordB = true) : readC (canon l) = match value 10 10 2147483648 l with | some v => ((v : Int), 0) | none => (0, 5) := by
  have hn := canon_num l
  obtain ⟨c0, c1⟩ := canon_head l
  have cw := canon_word hw
  have hlen : ¬ (l.length < 1 ∨ 10 < l.length) := by
    have : 0 < l.length := List.length_pos_iff.2 h0
    omega
  unfold value
  rw [if_neg hlen, ← hn]
  generalize canon l = C at *
  cases hv : numL 10 C 0 with
  | none =>
    dsimp only
    rcases readC_cases C with h | ⟨v, hex, g0, g1, ht⟩
    · exact h
    · exfalso
      cases hex with
      | true => rw [text_hex] at ht; rw [← ht, List.all_cons, Bool.and_eq_true] at cw; exact absurd cw.1 (by decide)
      | false =>
        by_cases hneg : v < 0
        · rw [text_neg hneg] at ht; rw [← ht, List.all_cons, Bool.and_eq_true] at cw; exact absurd cw.1 (by decide)
        · rw [text_pos hneg] at ht
          have := numL_of _ _ (natL_dec v.toNat (by omega))
          rw [ht, hv] at this
          cases this
  | some v =>
    dsimp only
    have hu := dec_uniq _ C v (Nat.le_refl _) c0 c1 hv
    by_cases hlt : v < 2147483648
    · rw [if_pos hlt]
      have := readC_text (v : Int) false (by omega) (by omega)
      rw [text_pos (by omega), Int.toNat_natCast, hu] at this
      exact this
    · rw [if_neg hlt]
      dsimp only
      rcases readC_cases C with h | ⟨u, hex, g0, g1, ht⟩
      · exact h
      · exfalso
        cases hex with
        | true => rw [text_hex] at ht; rw [← ht, List.all_cons, Bool.and_eq_true] at cw; exact absurd cw.1 (by decide)
        | false =>
          by_cases hneg : u < 0
          · rw [text_neg hneg] at ht; rw [← ht, List.all_cons, Bool.and_eq_true] at cw; exact absurd cw.1 (by decide)
          · rw [text_pos hneg] at ht
            have := numL_of _ _ (natL_dec u.toNat (by omega))
            rw [ht, hv] at this
            injection this with this
            omega
theorem uns_of {v : Nat} (h : v < 4294967296) : uns (redW (v : Int)) = v := by unfold uns redW; omega
theorem hex_pad {l : Bs} (h1 : 1 ≤ l.length) (h8 : l.length ≤ 8) : readC (35 :: (List.replicate (8 - l.length) 48 ++ l)) = match value 16 8 4294967296 l with | some v => (redW (v : Int), 0) | none => (0, 5) := by
  have hn := numL_zeros (base := 16) l (8 - l.length)
  have hlen : (List.replicate (8 - l.length) (48 : UInt8) ++ l).length = 8 := by rw [List.length_append, List.length_replicate]; omega
  unfold value
  rw [if_neg (by omega), ← hn]
  generalize List.replicate (8 - l.length) (48 : UInt8) ++ l = C at *
  cases hv : numL 16 C 0 with
  | none =>
    dsimp only
    rcases readC_cases (35 :: C) with h | ⟨v, hex, g0, g1, ht⟩
    · exact h
    · exfalso
      cases hex with
      | true =>
        rw [text_hex] at ht
        injection ht with _ ht
        have := numL_of _ _ (natL_text_hex v)
        rw [ht, hv] at this
        cases this
      | false =>
        by_cases hneg : v < 0
        · rw [text_neg hneg] at ht; injection ht with ht _; exact absurd ht (by decide)
        · rw [text_pos hneg] at ht
          obtain ⟨c, cs, e, k1, k2⟩ := decDigits_head v.toNat
          rw [e] at ht
          injection ht with ht _
          subst ht
          exact absurd k1 (by decide)
  | some v =>
    dsimp only
    obtain ⟨hu, hlt⟩ := hex_uniq 8 C v hlen hv
    have hlt2 : v < 4294967296 := hlt
    rw [if_pos hlt2]
    have := readC_text (redW (v : Int)) true (redW_bd _).1 (redW_bd _).2
    rw [text_hex, uns_of hlt2, hu] at this
    exact this
theorem value_far {base most limit : Nat} {s : Bs} (h : most < s.length) : value base most limit s = none := by unfold value; rw [if_pos (.inr h)]
theorem value_none {base most limit : Nat} : value base most limit [] = none := by unfold value; rw [if_pos (.inl (by decide))]
theorem value_two (x y : UInt8) : value 16 2 256 [x, y] = value 16 8 4294967296 [x, y] := by
  unfold value
  rw [if_neg (by simp), if_neg (by simp)]
  cases hv : numL 16 [x, y] 0 with
  | none => rfl
  | some v =>
    have := (hex_uniq 2 [x, y] v rfl hv).2
    have h16 : (16 : Nat) ^ 2 = 256 := by decide
    rw [h16] at this
    dsimp only
    rw [if_pos this, if_pos (by omega)]
/-! ### Characters -/
def escP (s : Bs) : Nat × Nat :=
  match (if 4 ≤ s.length ∧ s.take 2 = [42, 35] then value 16 8 4294967296 ((s.take 4).drop 2) else none) with
  | some v => (v, 4)
  | none => if 2 ≤ s.length then (match short (s.getD 1 0) with | some v => (v, 2) | none => (0, 0)) else (0, 0)
def charP : Bs → Nat × Nat
  | [] => (0, 0)
  | c :: r => if ¬ (32 ≤ c.toNat ∧ c.toNat ≤ 126) ∨ c = 39 then (0, 0) else if c = 42 then escP (c :: r) else (c.toNat, 1)
theorem quote_at (r : Bs) (m : Nat) : quote (39 :: r) (m + 2) = if m + 1 ≤ r.length then (match escape (r.take m) with | some v => if r.getD m 0 = 39 then some (v, m + 2) else none | none => none) else none := by
  unfold quote
  have e1 : ((39 :: r).take (m + 2 - 1)).drop 1 = r.take m := by simp
  have e2 : (39 :: r).getD (m + 2 - 1) 0 = r.getD m 0 := by simp
  rw [e1, e2, List.length_cons]
  by_cases h : m + 1 ≤ r.length
  · rw [if_pos (by omega), if_pos h]; cases escape (r.take m) <;> rfl
  · rw [if_neg (by omega), if_neg h]
theorem quoted_at (r : Bs) : quoted (39 :: r) = match quote (39 :: r) 3 with | some x => some x | none => match quote (39 :: r) 4 with | some x => some x | none => match quote (39 :: r) 5 with | some x => some x | none => quote (39 :: r) 6 := by
  unfold quoted
  simp only [List.findSome?_cons, List.findSome?_nil]
  cases quote (39 :: r) 3 <;> cases quote (39 :: r) 4 <;> cases quote (39 :: r) 5 <;> cases quote (39 :: r) 6 <;> rfl
def lit (r : Bs) (p : Nat × Nat) : Option (Nat × Nat) := if p.2 ≠ 0 ∧ (r.drop p.2).head? = some 39 then some (p.1, p.2 + 2) else none
theorem drop_head (r : Bs) (m : Nat) : (r.drop m).head? = some 39 ↔ m + 1 ≤ r.length ∧ r.getD m 0 = 39 := by
  rw [List.head?_drop]
  constructor
  · intro h
    have h2 := (List.getElem?_eq_some_iff.1 h).1
    exact ⟨by omega, by simp [h]⟩
  · rintro ⟨h1, h2⟩
    rw [List.getElem?_eq_getElem (by omega)]
    simpa [show m < r.length by omega] using h2
theorem quote_lit (r : Bs) (m v : Nat) (hm : m ≠ 0) (h : escape (r.take m) = some v) : quote (39 :: r) (m + 2) = lit r (v, m) := by
  rw [quote_at, h]
  unfold lit
  dsimp only
  have := drop_head r m
  by_cases h1 : m + 1 ≤ r.length
  · rw [if_pos h1]
    by_cases h2 : r.getD m 0 = 39
    · rw [if_pos h2, if_pos ⟨hm, this.2 ⟨h1, h2⟩⟩]
    · rw [if_neg h2, if_neg (fun h => h2 (this.1 h.2).2)]
  · rw [if_neg h1, if_neg (fun h => h1 (this.1 h.2).1)]
theorem quote_zip (r : Bs) (m : Nat) (h : m + 1 ≤ r.length → escape (r.take m) = none) : quote (39 :: r) (m + 2) = none := by
  rw [quote_at]
  by_cases h1 : m + 1 ≤ r.length
  · rw [if_pos h1, h h1]
  · rw [if_neg h1]
theorem esc_one (c : UInt8) : escape [c] = if 32 ≤ c.toNat ∧ c.toNat ≤ 126 ∧ c ≠ 39 ∧ c ≠ 42 then some c.toNat else none := rfl
theorem esc_two (b c : UInt8) : escape [b, c] = if b = 42 then short c else none := rfl
theorem esc_three (b c d : UInt8) : escape [b, c, d] = none := rfl
theorem esc_four (b g x y : UInt8) : escape [b, g, x, y] = if b = 42 ∧ g = 35 then value 16 2 256 [x, y] else none := rfl
theorem lit_zero (r : Bs) (v : Nat) : lit r (v, 0) = none := by unfold lit; rw [if_neg (fun h => h.1 rfl)]
theorem take_form (r : Bs) : (2 + 1 ≤ r.length → ∃ a b, r.take 2 = [a, b] ∧ r.head? = some a ∧ r.getD 1 0 = b) ∧ (3 + 1 ≤ r.length → ∃ a b c, r.take 3 = [a, b, c]) ∧ (4 + 1 ≤ r.length → ∃ a b c d, r.take 4 = [a, b, c, d] ∧ r.head? = some a ∧ r.getD 1 0 = b) := by
  match r with
  | [] => exact ⟨fun h => by simp at h, fun h => by simp at h, fun h => by simp at h⟩
  | [_] => exact ⟨fun h => by simp at h, fun h => by simp at h, fun h => by simp at h⟩
  | [_, _] => exact ⟨fun h => by simp at h, fun h => by simp at h, fun h => by simp at h⟩
  | [a, b, c] => exact ⟨fun h => ⟨a, b, rfl, rfl, rfl⟩, fun h => by simp at h, fun h => by simp at h⟩
  | a :: b :: c :: d :: t => exact ⟨fun h => ⟨a, b, rfl, rfl, rfl⟩, fun h => ⟨a, b, c, rfl⟩, fun h => ⟨a, b, c, d, rfl, rfl, rfl⟩⟩
theorem charP_quoted (r : Bs) : quoted (39 :: r) = lit r (charP r) := by
  obtain ⟨t2, t3, t4⟩ := take_form r
  have z3 : quote (39 :: r) 5 = none := quote_zip r 3 (fun h => by obtain ⟨a, b, c, e⟩ := t3 h; rw [e]; rfl)
  cases r with
  | nil => rw [show charP [] = (0, 0) from rfl, lit_zero]; decide
  | cons c t =>
    rw [quoted_at, z3]
    by_cases hb : c = 42
    · subst hb
      have z1 : quote (39 :: 42 :: t) 3 = none := quote_zip (42 :: t) 1 (fun _ => by rfl)
      rw [z1]
      dsimp only
      have hch : charP (42 :: t) = escP (42 :: t) := by unfold charP; dsimp only; rw [if_neg (by decide), if_pos rfl]
      rw [hch]
      cases t with
      | nil =>
        have : escP [42] = (0, 0) := by decide
        rw [this, lit_zero]; decide
      | cons g t =>
        by_cases hg : g = 35
        · subst hg
          have z2 : quote (39 :: 42 :: 35 :: t) 4 = none := quote_zip (42 :: 35 :: t) 2 (fun _ => by rfl)
          rw [z2]
          dsimp only
          match t with
          | [] => decide
          | [x] =>
            have : escP [42, 35, x] = (0, 0) := by
              unfold escP
              rw [if_neg (by simp)]
              rfl
            rw [this, lit_zero]
            exact quote_zip _ 4 (fun h => by simp at h)
          | x :: y :: t =>
            have ht : (42 :: 35 :: x :: y :: t).take 4 = [42, 35, x, y] := rfl
            have he : escape ((42 :: 35 :: x :: y :: t).take 4) = value 16 8 4294967296 [x, y] := by
              rw [ht, esc_four, if_pos ⟨rfl, rfl⟩, value_two]
            have hp : escP (42 :: 35 :: x :: y :: t) = match value 16 8 4294967296 [x, y] with | some v => (v, 4) | none => (0, 0) := by
              unfold escP
              rw [if_pos ⟨by simp, rfl⟩, ht]
              cases h : value 16 8 4294967296 ([42, 35, x, y].drop 2) with
              | none => rw [show ([42, 35, x, y] : Bs).drop 2 = [x, y] from rfl] at h; rw [h]; dsimp only; rw [if_pos (by simp)]; rfl
              | some v => rw [show ([42, 35, x, y] : Bs).drop 2 = [x, y] from rfl] at h; rw [h]
            rw [hp]
            cases hv : value 16 8 4294967296 [x, y] with
            | none =>
              rw [hv] at he
              rw [lit_zero]
              exact quote_zip _ 4 (fun _ => he)
            | some v =>
              rw [hv] at he
              exact quote_lit _ 4 v (by decide) he
        · have z4 : quote (39 :: 42 :: g :: t) 6 = none := quote_zip (42 :: g :: t) 4 (fun h => by
            obtain ⟨a, b, x, y, e, e1, e2⟩ := t4 h
            injection e1 with e1
            have e2' : g = b := e2
            subst e1 e2'
            rw [e, esc_four, if_neg (fun h => hg h.2)])
          rw [z4]
          have hp : escP (42 :: g :: t) = match short g with | some v => (v, 2) | none => (0, 0) := by
            unfold escP
            rw [if_neg (fun h => hg (by have := h.2; simp at this; exact this))]
            dsimp only
            rw [if_pos (by simp)]
            rfl
          rw [hp]
          have he : escape ((42 :: g :: t).take 2) = short g := by show escape [42, g] = _; rw [esc_two, if_pos rfl]
          cases hs : short g with
          | none =>
            rw [hs] at he
            have z2 := quote_zip (42 :: g :: t) 2 (fun _ => he)
            rw [z2, lit_zero]
          | some v =>
            rw [hs] at he
            rw [quote_lit _ 2 v (by decide) he]
            cases lit (42 :: g :: t) (v, 2) <;> rfl
    · have z2 : quote (39 :: c :: t) 4 = none := quote_zip (c :: t) 2 (fun h => by
        obtain ⟨a, b, e, e1, _⟩ := t2 h
        injection e1 with e1
        subst e1
        rw [e, esc_two, if_neg hb])
      have z4 : quote (39 :: c :: t) 6 = none := quote_zip (c :: t) 4 (fun h => by
        obtain ⟨a, b, x, y, e, e1, _⟩ := t4 h
        injection e1 with e1
        subst e1
        rw [e, esc_four, if_neg (fun h => hb h.1)])
      rw [z2, z4]
      unfold charP
      dsimp only
      by_cases hp : ¬ (32 ≤ c.toNat ∧ c.toNat ≤ 126) ∨ c = 39
      · rw [if_pos hp, lit_zero]
        have : quote (39 :: c :: t) 3 = none := quote_zip (c :: t) 1 (fun _ => by
          show escape [c] = none
          rw [esc_one, if_neg]
          rintro ⟨h1, h2, h3, _⟩
          exact hp.elim (fun h => h ⟨h1, h2⟩) h3)
        rw [this]
      · rw [if_neg hp, if_neg hb]
        have h1 : 32 ≤ c.toNat ∧ c.toNat ≤ 126 := Decidable.not_not.1 (fun h => hp (.inl h))
        have : quote (39 :: c :: t) 3 = lit (c :: t) (c.toNat, 1) := quote_lit (c :: t) 1 c.toNat (by decide) (by
          show escape [c] = _
          rw [esc_one, if_pos ⟨h1.1, h1.2, fun h => hp (.inr h), hb⟩])
        rw [this]
        cases lit (c :: t) (c.toNat, 1) <;> rfl
end Go.Proofs.YtimbiobonigdmaaGreatDoor.L8
