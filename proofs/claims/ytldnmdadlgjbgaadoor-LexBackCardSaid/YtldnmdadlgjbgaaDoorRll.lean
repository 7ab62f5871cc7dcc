/- The reference: the text of tokens. -/
import Derived.Test.YtldnmdadlgjbgaaDoorRlk
import Derived.Test.YtldnmdadlgjbgaaDoorRld
import Derived.Test.YtldnmdadlgjbgaaDoorLxg
set_option linter.unusedVariables false
set_option linter.unusedSimpArgs false
namespace Go.Proofs.YtldnmdadlgjbgaaDoor
open Go Go.RowKit L8

def GivesX (w : World) (l : List Tk) (e : Ending) (w' : World) : Prop := e = .returned (.tuple #[.string (strOf (text l).1), .int .i64 (text l).2]) ∧ Below w.heap.size w w'
theorem text_arg {l : List Tk} {k : Nat} (h : k < l.length) (hm : may (l.getD k r0) = false) : text l = ([], 2) := by
  unfold text
  rw [if_neg]
  intro ha
  rw [List.all_eq_true] at ha
  rw [ha _ (getD_mem h)] at hm
  cases hm
theorem all_of {l : List Tk} (h : ∀ j, j < l.length → may (l.getD j r0) = true) : l.all may = true := by
  rw [List.all_eq_true]
  intro x hx
  obtain ⟨i, hi, rfl⟩ := List.getElem_of_mem hx
  have := h i hi
  rwa [List.getD_eq_getElem?_getD, List.getElem?_eq_getElem hi] at this
theorem text_long {l : List Tk} (h : l.all may = true) (hl : 256 < (textT l).length) : text l = ([], 3) := by
  unfold text; rw [if_pos h, if_neg (by omega)]
theorem text_ok {l : List Tk} (h : l.all may = true) (hl : (textT l).length ≤ 256) : text l = (textT l, 0) := by
  unfold text; rw [if_pos h, if_pos hl]
theorem rwV_eq (t : Tk) : rwV t = .agg #[.int .u8 (t.k : Int), .int .i64 t.a, .string (strOf t.tx), .int .i32 t.n] := rfl
theorem may_byte {t : Tk} (h : may t = true) : t.k = 4 → 0 ≤ t.n ∧ t.n ≤ 255 := by
  intro hk
  obtain ⟨_, _, hp⟩ := may_parts h
  rcases hp with h | h | h | h | h
  all_goals first | omega | exact ⟨h.2.2.1, h.2.2.2⟩
theorem one_le {t : Tk} (h : may t = true) (hx : OKx t) : (one t).length ≤ 60 := by
  have hk : ∀ s ∈ keys, s.length ≤ 20 := by decide
  have hs : ∀ s ∈ syms, s.length ≤ 20 := by decide
  obtain ⟨_, _, hp⟩ := may_parts h
  have e : t.tx.length ≤ 40 := by
    rcases hp with ⟨h1, h2, _⟩ | ⟨h1, h2, _⟩ | ⟨h1, h2⟩ | ⟨h1, h2, _⟩ | ⟨h1, h2, _⟩
    · unfold isName at h2
      simp only [Bool.and_eq_true, decide_eq_true_eq] at h2
      omega
    · have := hk _ (isKey_mem h2); omega
    · rw [h2]; simp
    · rw [h2]; simp
    · have := hs _ (isSym_mem h2); omega
  unfold one
  split
  · have := (text_len t.n (decide (t.n < 0)) hx.2.2.1 hx.2.2.2).2; omega
  · split
    · have := (shown_len t.n).2; simp only [List.length_cons, List.length_append, List.length_nil]; omega
    · omega
theorem text_first {l : List Tk} {k : Nat} (hk : k = 0) (h : k < l.length) : textT (l.take (k + 1)) = textT (l.take k) ++ one (l.getD k r0) := by
  subst hk
  rw [textT_one (x := l.getD 0 r0) (by rw [List.getD_eq_getElem?_getD, List.getElem?_eq_getElem h]; rfl)]
  simp [textT]
end Go.Proofs.YtldnmdadlgjbgaaDoor
