/- The text of tokens, token by token. Plain Lean. -/
import Derived.Test.YtplcmcealeeppaaGreatDoorLxe
set_option linter.unusedVariables false
set_option linter.unusedSimpArgs false
set_option linter.unusedVariables false
set_option linter.unusedSimpArgs false
namespace Go.Proofs.YtplcmcealeeppaaGreatDoor.L8
open Go

/-- What stands between two tokens, and the second one. -/
def sep (a b : Tk) : Bs := if near a b = true then one b else 32 :: one b
theorem behind_snoc (x : Tk) : ∀ (r : List Tk) (a : Tk), behind a (r ++ [x]) = behind a r ++ sep (r.getLastD a) x
  | [], a => by simp [behind, sep]
  | b :: r, a => by
    rw [List.cons_append, behind, behind, behind_snoc x r b, List.getLastD_cons, List.append_assoc]
theorem behind_app (s : List Tk) : ∀ (r : List Tk) (a : Tk), ∃ z, behind a (r ++ s) = behind a r ++ z
  | [], a => ⟨behind a s, by simp [behind]⟩
  | b :: r, a => by
    obtain ⟨z, hz⟩ := behind_app s r b
    exact ⟨z, by rw [List.cons_append, behind, behind, hz, List.append_assoc]⟩
theorem textT_app (l s : List Tk) : (textT l).length ≤ (textT (l ++ s)).length := by
  cases l with
  | nil => simp [textT]
  | cons a r =>
    obtain ⟨z, hz⟩ := behind_app s r a
    rw [List.cons_append, textT, textT, hz]
    simp only [List.length_append]
    omega
theorem textT_take (l : List Tk) (k : Nat) : (textT (l.take k)).length ≤ (textT l).length := by
  have := textT_app (l.take k) (l.drop k)
  rwa [List.take_append_drop] at this
theorem textT_one {l : List Tk} {x : Tk} (h : l[0]? = some x) : textT (l.take 1) = one x := by
  cases l with
  | nil => cases h
  | cons a r =>
    have h : some a = some x := h
    injection h with h
    subst h
    simp [textT, behind]
theorem getLastD_take (a : Tk) : ∀ (r : List Tk) (j : Nat), j ≤ r.length → (r.take j).getLastD a = (a :: r).getD j a
  | r, 0, _ => by simp
  | [], j + 1, h => by simp at h
  | b :: r, j + 1, h => by
    rw [List.take_succ_cons, List.getLastD_cons, getLastD_take b r j (by simpa using h)]
    have : j < (b :: r).length := by simp at h ⊢; omega
    rw [List.getD_cons_succ, List.getD_eq_getElem?_getD, List.getD_eq_getElem?_getD, List.getElem?_eq_getElem this]
    rfl
theorem textT_snoc {l : List Tk} {j : Nat} {d : Tk} (h : j + 1 < l.length) : textT (l.take (j + 2)) = textT (l.take (j + 1)) ++ sep (l.getD j d) (l.getD (j + 1) d) := by
  cases l with
  | nil => simp at h
  | cons a r =>
    have hj : j < r.length := by simpa using h
    have e : r.take (j + 1) = r.take j ++ [r.getD j d] := by
      rw [List.take_succ_eq_append_getElem hj]
      simp [hj]
    rw [List.take_succ_cons, List.take_succ_cons, textT, textT, e, behind_snoc, getLastD_take a r j (by omega), List.append_assoc]
    have e2 : (a :: r).getD j a = (a :: r).getD j d := by
      have : j < (a :: r).length := by simp; omega
      simp [List.getD_eq_getElem?_getD, List.getElem?_eq_getElem this]
    rw [e2]
    simp
end Go.Proofs.YtplcmcealeeppaaGreatDoor.L8
