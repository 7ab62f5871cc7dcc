/- Tokens that were read exist; their text is read again; texts do not depend on places. Plain Lean. -/
import Derived.Test.YtblckajejohlbaaDoorLxc
set_option linter.unusedVariables false
set_option linter.unusedSimpArgs false
set_option linter.unusedVariables false
set_option linter.unusedSimpArgs false
namespace Go.Proofs.YtblckajejohlbaaDoor.L8
open Go

/-! ### Tokens that were read exist -/
theorem value_lt {base most limit : Nat} {s : Bs} {v : Nat} (h : value base most limit s = some v) : v < limit := by
  unfold value at h
  split at h
  · cases h
  · split at h
    · split at h
      · injection h with h; omega
      · cases h
    · cases h
theorem escape_lt {s : Bs} {v : Nat} (h : escape s = some v) : v < 256 := by
  unfold escape at h
  split at h
  · split at h
    · rename_i hc; injection h with h; omega
    · cases h
  · split at h
    · unfold short at h
      repeat' split at h
      all_goals first | (cases h; done) | (injection h with h; omega)
    · cases h
  · split at h
    · exact value_lt h
    · cases h
  · cases h
/-- A token that was read exists, wherever it lies. -/
theorem token_may {s : Bs} {k : Nat} {tx : Bs} {v : Int} {n : Nat} (h : token s = some (k, tx, v, n)) : (∀ a : Int, 0 ≤ a → a ≤ 255 → may ⟨k, a, tx, v⟩ = true) ∧ -2147483648 ≤ v ∧ v ≤ 2147483647 := by
  cases s with
  | nil => cases h
  | cons c r =>
    rcases token_cases c with h1 | ⟨h1, h2⟩ | rfl | rfl | ⟨h1, h2, h3, h4⟩
    · rw [token_word h1] at h
      split at h
      · rename_i hk
        obtain ⟨rfl, rfl, rfl, _⟩ := some4 h
        refine ⟨fun a g1 g2 => ?_, by omega, by omega⟩
        unfold may
        rw [decide_eq_true g1, decide_eq_true g2, hk]
        rfl
      · split at h
        · rename_i hk
          obtain ⟨rfl, rfl, rfl, _⟩ := some4 h
          refine ⟨fun a g1 g2 => ?_, by omega, by omega⟩
          unfold may
          rw [decide_eq_true g1, decide_eq_true g2, hk]
          rfl
        · cases h
    · rw [token_num h1 h2] at h
      split at h
      · rename_i z hz
        have := value_lt hz
        obtain ⟨rfl, rfl, rfl, _⟩ := some4 h
        refine ⟨fun a g1 g2 => ?_, by omega, by omega⟩
        unfold may
        rw [decide_eq_true g1, decide_eq_true g2]
        rfl
      · cases h
    · rw [token_hex] at h
      split at h
      · rename_i z hz
        obtain ⟨rfl, rfl, rfl, _⟩ := some4 h
        have := redW_bd (z : Int)
        refine ⟨fun a g1 g2 => ?_, this.1, this.2⟩
        unfold may
        rw [decide_eq_true g1, decide_eq_true g2]
        rfl
      · cases h
    · rw [token_quo] at h
      split at h
      · rename_i z m hz
        have hq := escape_lt (quoted_len hz).2.2.2.1
        obtain ⟨rfl, rfl, rfl, _⟩ := some4 h
        refine ⟨fun a g1 g2 => ?_, by omega, by omega⟩
        unfold may
        rw [decide_eq_true g1, decide_eq_true g2]
        show (true && true && (([] : Bs).isEmpty && decide ((0 : Int) ≤ (z : Int)) && decide ((z : Int) ≤ 255))) = true
        rw [decide_eq_true (show (0 : Int) ≤ (z : Int) by omega), decide_eq_true (show (z : Int) ≤ 255 by omega)]
        rfl
      · cases h
    · rw [token_sym h1 h2 h3 h4] at h
      split at h
      · rename_i hk
        obtain ⟨rfl, rfl, rfl, _⟩ := some4 h
        refine ⟨fun a g1 g2 => ?_, by omega, by omega⟩
        unfold may
        rw [decide_eq_true g1, decide_eq_true g2, hk.2]
        rfl
      · split at h
        · rename_i hk
          obtain ⟨rfl, rfl, rfl, _⟩ := some4 h
          refine ⟨fun a g1 g2 => ?_, by omega, by omega⟩
          unfold may
          rw [decide_eq_true g1, decide_eq_true g2, hk]
          rfl
        · cases h
theorem toks_may : ∀ (N : Nat) (s : Bs) (p : Nat) (l : List Tk), s.length ≤ N → p + s.length ≤ 256 → toks s p = .ok l → ∀ t ∈ l, may t = true ∧ OKn t := by
  intro N
  induction N with
  | zero =>
    intro s p l h _ hl
    obtain rfl : s = [] := List.eq_nil_of_length_eq_zero (by omega)
    rw [toks_nil] at hl
    injection hl with hl
    subst hl
    exact fun t ht => (by cases ht)
  | succ N ih =>
    intro s p l h hp hl t ht
    rcases toks_ways s with rfl | ⟨r, rfl⟩ | ⟨c, r, rfl, hc, hb⟩ | ⟨c, r, k, tx, v, n, rfl, hc, hk⟩
    · rw [toks_nil] at hl
      injection hl with hl
      subst hl
      cases ht
    · rw [toks_sp] at hl
      exact ih r (p + 1) l (by simpa using h) (by simp only [List.length_cons] at hp; omega) hl t ht
    · rw [toks_bad hc hb] at hl; cases hl
    · have hlen := token_len hk
      rw [toks_tok hc hk] at hl
      cases hd : toks ((c :: r).drop n) (p + n) with
      | error e => rw [hd] at hl; cases hl
      | ok l' =>
        rw [hd] at hl
        injection hl with hl
        subst hl
        rcases List.mem_cons.1 ht with rfl | ht
        · obtain ⟨g1, g2⟩ := token_may hk
          exact ⟨g1 p (by omega) (by omega), g2⟩
        · exact ih _ (p + n) l' (by rw [List.length_drop]; omega) (by rw [List.length_drop]; omega) hd t ht
/-- Tokens are in order, each behind the one before it. -/
def Inc (q : Int) : List Tk → Prop
  | [] => True
  | t :: r => q ≤ t.a ∧ Inc (t.a + 1) r
theorem Inc.weak {q q' : Int} (h : q' ≤ q) : ∀ {l : List Tk}, Inc q l → Inc q' l
  | [], _ => trivial
  | t :: r, hl => ⟨Int.le_trans h hl.1, hl.2⟩
theorem toks_inc : ∀ (N : Nat) (s : Bs) (p : Nat) (l : List Tk), s.length ≤ N → toks s p = .ok l → Inc p l := by
  intro N
  induction N with
  | zero =>
    intro s p l h hl
    obtain rfl : s = [] := List.eq_nil_of_length_eq_zero (by omega)
    rw [toks_nil] at hl
    injection hl with hl
    subst hl
    trivial
  | succ N ih =>
    intro s p l h hl
    rcases toks_ways s with rfl | ⟨r, rfl⟩ | ⟨c, r, rfl, hc, hb⟩ | ⟨c, r, k, tx, v, n, rfl, hc, hk⟩
    · rw [toks_nil] at hl
      injection hl with hl
      subst hl
      trivial
    · rw [toks_sp] at hl
      exact (ih r (p + 1) l (by simpa using h) hl).weak (by omega)
    · rw [toks_bad hc hb] at hl; cases hl
    · have hlen := token_len hk
      rw [toks_tok hc hk] at hl
      cases hd : toks ((c :: r).drop n) (p + n) with
      | error e => rw [hd] at hl; cases hl
      | ok l' =>
        rw [hd] at hl
        injection hl with hl
        subst hl
        exact ⟨Int.le_refl _, (ih _ (p + n) l' (by rw [List.length_drop]; omega) hd).weak (by show (p : Int) + 1 ≤ _; omega)⟩
/-! ### Places do not matter to texts -/
def kern (l : List Tk) : List (Nat × Bs × Int) := l.map fun t => (t.k, t.tx, t.n)
def base (t : Tk) : Tk := ⟨t.k, 0, t.tx, t.n⟩
theorem kern_base {a b : List Tk} (h : kern a = kern b) : a.map base = b.map base := by
  have e : ∀ l : List Tk, l.map base = (kern l).map fun q => ⟨q.1, 0, q.2.1, q.2.2⟩ := fun l => by unfold kern; rw [List.map_map]; rfl
  rw [e, e, h]
theorem behind_base : ∀ (r : List Tk) (a : Tk), behind (base a) (r.map base) = behind a r
  | [], a => rfl
  | b :: r, a => by
    show (if near (base a) (base b) = true then one (base b) else 32 :: one (base b)) ++ behind (base b) (r.map base) = _
    rw [behind_base r b]
    rfl
theorem textT_base (l : List Tk) : textT (l.map base) = textT l := by
  cases l with
  | nil => rfl
  | cons a r =>
    show one (base a) ++ behind (base a) (r.map base) = one a ++ behind a r
    rw [behind_base]
    rfl
theorem textT_kern {a b : List Tk} (h : kern a = kern b) : textT a = textT b := by
  rw [← textT_base a, ← textT_base b, kern_base h]
theorem kern_put (p : Nat) (l : List Tk) : kern (put p l) = kern l := by
  have h : ∀ (r : List Tk) (p : Nat) (a : Tk), kern (putB p a r) = kern r := by
    intro r
    induction r with
    | nil => intro p a; rfl
    | cons b r ih =>
      intro p a
      have := ih (p + gap a b + (one b).length) b
      unfold kern at this ⊢
      unfold putB
      rw [List.map_cons, List.map_cons, this]
  cases l with
  | nil => rfl
  | cons t r =>
    have := h r (p + (one t).length) t
    unfold kern at this ⊢
    unfold put
    rw [List.map_cons, List.map_cons, this]
/-- What was read is written, and read again. -/
theorem again {s : Bs} (hs : s.length ≤ 256) {l : List Tk} (h : toks s 0 = .ok l) : (∀ t ∈ l, may t = true ∧ OKn t) ∧ toks (textT l) 0 = .ok (put 0 l) ∧ kern (put 0 l) = kern l ∧ textT (put 0 l) = textT l := by
  have hm := toks_may _ s 0 l (Nat.le_refl _) (by omega) h
  exact ⟨hm, toks_back hm, kern_put 0 l, textT_kern (kern_put 0 l)⟩
end Go.Proofs.YtblckajejohlbaaDoor.L8
