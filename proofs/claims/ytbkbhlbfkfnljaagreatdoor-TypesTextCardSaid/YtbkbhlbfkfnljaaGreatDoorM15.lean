/- The reference: tokens that begin with others. -/
import Derived.Deep.CutBlock
import Derived.Test.YtbkbhlbfkfnljaaGreatDoorM13
import Derived.Test.YtbkbhlbfkfnljaaGreatDoorFro
set_option linter.unusedVariables false
set_option linter.unusedSimpArgs false
set_option linter.unusedVariables false
set_option linter.unusedSimpArgs false
namespace Go.Proofs.YtbkbhlbfkfnljaaGreatDoor
open Go Go.RowKit L8 L9

theorem pre_step : ∀ (ys l : List Tk), pre ys l = true ↔ ys.length ≤ l.length ∧ ∀ j, j < ys.length → isT (l.getD j r0) (ys.getD j r0) = true
  | [], l => by rw [pre_nil]; simp
  | y :: ys, [] => by simp [pre]
  | y :: ys, x :: xs => by
    show (isT x y && pre ys xs) = true ↔ _
    rw [Bool.and_eq_true, pre_step ys xs]
    constructor
    · rintro ⟨h1, h2, h3⟩
      refine ⟨by simpa using h2, fun j hj => ?_⟩
      cases j with
      | zero => exact h1
      | succ j => simpa using h3 j (by simpa using hj)
    · rintro ⟨h1, h2⟩
      refine ⟨h2 0 (by simp), by simpa using h1, fun j hj => ?_⟩
      have := h2 (j + 1) (by simpa using hj)
      simpa using this
theorem isT_at0 (x y : Tk) (h : y.a = 0) : decide ((⟨x.k, 0, x.tx, x.n⟩ : Tk) = y) = isT x y := by
  obtain ⟨k, a, tx, n⟩ := x
  obtain ⟨k', a', tx', n'⟩ := y
  simp only at h
  subst h
  unfold isT
  simp
end Go.Proofs.YtbkbhlbfkfnljaaGreatDoor
/- The reference: the type with which tokens begin. -/
set_option linter.unusedVariables false
set_option linter.unusedSimpArgs false
namespace Go.Proofs.YtbkbhlbfkfnljaaGreatDoor
open Go Go.RowKit L8 L9

theorem may_okx9 {t : Tk} (h : may t = true) (hn : OKn t) : OKx t := by
  have hk : ∀ s ∈ keys, s.length ≤ 20 := by decide
  have hs : ∀ s ∈ syms, s.length ≤ 20 := by decide
  obtain ⟨_, _, hp⟩ := may_parts h
  have e : t.tx.length ≤ 40 ∧ t.k < 256 := by
    rcases hp with ⟨h1, h2, _⟩ | ⟨h1, h2, _⟩ | ⟨h1, h2⟩ | ⟨h1, h2, _⟩ | ⟨h1, h2, _⟩
    · unfold isName at h2
      simp only [Bool.and_eq_true, decide_eq_true_eq] at h2
      omega
    · have := hk _ (isKey_mem h2); omega
    · rw [h2]; simp; omega
    · rw [h2]; simp; omega
    · have := hs _ (isSym_mem h2); omega
  exact ⟨by unfold maxLen; omega, e.2, hn.1, hn.2⟩
def FrS (w X : World) : Prop := Below w.heap.size w X ∧ BoxS X w.heap.size 24 #[.int .u8 0, .int .i64 0, .int .u8 0, .string ⟨#[]⟩]
theorem FrS.step {w X Y : World} (h : FrS w X) (b : Below X.heap.size X Y) : FrS w Y := ⟨blw h.1 b, h.2.below b⟩
theorem FrS.bel {w X : World} (h : FrS w X) : Below w.heap.size w X := h.1
/-- What is done: no type of an earlier kind; of this kind no earlier item; of this item no earlier place. -/
def Dk (xs : List Tk) (k : Nat) : Prop := ∀ k' it i, 1 ≤ k' → k' < k → it ≤ 3 → i ≤ xs.length → i < 7 → hit xs k' it i = false
def Di (xs : List Tk) (k it : Nat) : Prop := ∀ it' i, it' < it → i ≤ xs.length → i < 7 → hit xs k it' i = false
def Dj (xs : List Tk) (k it i : Nat) : Prop := ∀ i', i' < i → hit xs k it i' = false
theorem Dk.next {xs : List Tk} {k : Nat} (h : Dk xs k) (g : Di xs k 4) : Dk xs (k + 1) := fun k' it i h1 h2 h3 h4 h5 =>
  if e : k' < k then h k' it i h1 e h3 h4 h5 else by rw [show k' = k by omega]; exact g it i (by omega) h4 h5
theorem Di.next {xs : List Tk} {k it i : Nat} (h : Di xs k it) (g : Dj xs k it i) (hi : i = 7 ∨ i = xs.length + 1) : Di xs k (it + 1) := fun it' i' h1 h2 h3 =>
  if e : it' < it then h it' i' e h2 h3 else by rw [show it' = it by omega]; exact g i' (by omega)
theorem Dj.next {xs : List Tk} {k it i : Nat} (h : Dj xs k it i) (g : hit xs k it i = false) : Dj xs k it (i + 1) := fun i' h1 =>
  if e : i' < i then h i' e else by rw [show i' = i by omega]; exact g
def GivesFr (w : World) (r : Ty × Nat × Int) (e : Ending) (w' : World) : Prop := e = .returned (.tuple #[tyV r.1, .int .i64 (r.2.1 : Int), .int .i64 r.2.2]) ∧ Below w.heap.size w w'
theorem eq_91 (l : Bs) : ((strOf l).toList == [91]) = decide (l = [91]) := by rw [toList_strOf]; by_cases h : l = [91] <;> simp [h]
theorem okt_cand {xs : List Tk} (h : OKL xs) {k it i : Nat} (hk : k ≤ 5) (hi : it ≤ 3) : OKt (cand xs k it i) := by
  obtain ⟨h1, h2⟩ := dimOf_rng xs
  refine ⟨by show k < 256; omega, by show it < 256; omega, ?_, by show (-9223372036854775808 : Int) ≤ dimOf xs; omega, by show dimOf xs ≤ 9223372036854775807; omega⟩
  show (protOf xs i).length ≤ maxLen
  unfold protOf
  split
  · exact (h.get i).1
  · simp [maxLen]
theorem tok_a0 (t : Ty) : ∀ y ∈ tokT t, y.a = 0 := by
  intro y hy
  unfold tokT dimT coreT at hy
  rcases List.mem_append.1 hy with hy | hy
  · split at hy
    · simp only [List.mem_cons, List.not_mem_nil, or_false] at hy
      rcases hy with rfl | rfl | rfl <;> rfl
    · cases hy
  · split at hy
    · rw [List.mem_singleton.1 hy]; rfl
    · split at hy
      · simp only [List.mem_cons, List.not_mem_nil, or_false] at hy
        rcases hy with rfl | rfl | rfl
        · rfl
        · rfl
        · split <;> rfl
      · rw [List.mem_singleton.1 hy]; rfl
end Go.Proofs.YtbkbhlbfkfnljaaGreatDoor
