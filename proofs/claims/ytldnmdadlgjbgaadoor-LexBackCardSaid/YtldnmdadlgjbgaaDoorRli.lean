/- The reference: the tokens of a line. -/
import Derived.Test.YtldnmdadlgjbgaaDoorRlh
import Derived.Test.YtldnmdadlgjbgaaDoorRle
set_option linter.unusedVariables false
set_option linter.unusedSimpArgs false
namespace Go.Proofs.YtldnmdadlgjbgaaDoor
open Go Go.RowKit L8

theorem may_okx {t : Tk} (h : may t = true) (hn : OKn t) : OKx t := by
  have hk : ∀ s ∈ keys, s.length ≤ 20 := by decide
  have hs : ∀ s ∈ syms, s.length ≤ 20 := by decide
  obtain ⟨_, _, hp⟩ := may_parts h
  have e : t.tx.length ≤ 40 ∧ t.k < 256 := by
    rcases hp with ⟨h1, h2, _⟩ | ⟨h1, h2, _⟩ | ⟨h1, h2⟩ | ⟨h1, h2, _⟩ | ⟨h1, h2, _⟩
    · unfold isName at h2
      simp only [Bool.and_eq_true, decide_eq_true_eq] at h2
      omega
    · have := hk _ (isKey_mem h2); omega
    · rw [h2]; simp; omega
    · rw [h2]; simp; omega
    · have := hs _ (isSym_mem h2); omega
  exact ⟨by unfold maxLen; omega, e.2, hn.1, hn.2⟩
/-- What Tokens gives. -/
def GivesT (w : World) (s : Bs) (e : Ending) (w' : World) : Prop := ∃ A c, e = .returned (.tuple #[.slice A (tokens s).1.length c, .int .i64 (tokens s).2.1, .int .i64 (tokens s).2.2]) ∧ OwnR w' 26 w.heap.size A (tokens s).1.length c (tokens s).1 ∧ Below w.heap.size w w'
theorem tokens_long {s : Bs} (h : 256 < s.length) : tokens s = ([], 0, 3) := by unfold tokens; rw [if_pos h]
theorem tokens_err {s : Bs} {p : Nat} (h : ¬ 256 < s.length) (ht : toks s 0 = .error p) : tokens s = ([], (p : Int), 80) := by unfold tokens; rw [if_neg h, ht]
theorem tokens_ok {s : Bs} {l : List Tk} (h : ¬ 256 < s.length) (ht : toks s 0 = .ok l) : tokens s = (l, 0, 0) := by unfold tokens; rw [if_neg h, ht]
theorem givesT_err {w w' : World} {s : Bs} {n e : Int} (h : tokens s = ([], n, e)) (hb : Below w.heap.size w w') : GivesT w s (.returned (.tuple #[.slice none 0 0, .int .i64 n, .int .i64 e])) w' := by
  unfold GivesT
  rw [h]
  exact ⟨none, 0, rfl, ownR_nil w' _ _, hb⟩
def addT (out : List Tk) : Except Nat (List Tk) → Except Nat (List Tk)
  | .error e => .error e
  | .ok l => .ok (out ++ l)
theorem addT_snoc (out : List Tk) (x : Tk) (q : Except Nat (List Tk)) : addT out (match q with | .error e => .error e | .ok l => .ok (x :: l)) = addT (out ++ [x]) q := by
  cases q with
  | error e => rfl
  | ok l => simp [addT]
end Go.Proofs.YtldnmdadlgjbgaaDoor
