/- The reference: characters between quotation marks. -/
import Derived.Test.YtbkbhlbfkfnljaaDoorRlb
set_option linter.unusedVariables false
set_option linter.unusedSimpArgs false
namespace Go.Proofs.YtbkbhlbfkfnljaaDoor
open Go Go.RowKit L8

def shorts : List Bs := [[42, 99], [42, 110], [42, 116], [42, 115], [42, 39], [42, 34], [42, 42]]
def stands : List Nat := [13, 10, 9, 32, 39, 34, 42]
theorem sh_val : ∀ i, i < 7 → escape (shorts.getD i []) = some (stands.getD i 0) := by decide
theorem eq_lit' (l k : Bs) : ((strOf l).toList == k) = decide (l = k) := by
  rw [toList_strOf]; by_cases h : l = k <;> simp [h]
def single (s : Bs) : Prop := ∃ c, s = [c] ∧ 32 ≤ c.toNat ∧ c.toNat ≤ 126 ∧ c ≠ 39 ∧ c ≠ 42
theorem esc_1 (c : UInt8) : escape [c] = if 32 ≤ c.toNat ∧ c.toNat ≤ 126 ∧ c ≠ 39 ∧ c ≠ 42 then some c.toNat else none := rfl
theorem esc_2 (b c : UInt8) : escape [b, c] = if b = 42 then short c else none := rfl
theorem esc_4 (b g x y : UInt8) : escape [b, g, x, y] = if b = 42 ∧ g = 35 then value 16 2 256 [x, y] else none := rfl
theorem esc_single {c : UInt8} (h : 32 ≤ c.toNat ∧ c.toNat ≤ 126 ∧ c ≠ 39 ∧ c ≠ 42) : escape [c] = some c.toNat := by rw [esc_1, if_pos h]
theorem esc_rest {s : Bs} (h1 : ¬ single s) (h : ∀ i, i < 7 → shorts.getD i [] ≠ s) : escape s = if s.length = 4 ∧ s.take 2 = [42, 35] then value 16 2 256 (s.drop 2) else none := by
  match s, h1, h with
  | [], _, _ => rfl
  | [c], h1, _ =>
    rw [if_neg (by simp), esc_1, if_neg (fun h => h1 ⟨c, rfl, h⟩)]
  | [b, c], _, h =>
    rw [if_neg (by simp), esc_2]
    by_cases hb : b = 42
    · rw [if_pos hb]
      subst hb
      unfold short
      have h0 := h 0 (by decide)
      have h1 := h 1 (by decide)
      have h2 := h 2 (by decide)
      have h3 := h 3 (by decide)
      have h4 := h 4 (by decide)
      have h5 := h 5 (by decide)
      have h6 := h 6 (by decide)
      rw [if_neg (fun e => h0 (by rw [e]; rfl)), if_neg (fun e => h1 (by rw [e]; rfl)), if_neg (fun e => h2 (by rw [e]; rfl)), if_neg (fun e => h3 (by rw [e]; rfl)), if_neg (fun e => h4 (by rw [e]; rfl)), if_neg (fun e => h5 (by rw [e]; rfl)), if_neg (fun e => h6 (by rw [e]; rfl))]
    · rw [if_neg hb]
  | [_, _, _], _, _ => rw [if_neg (by simp)]; rfl
  | [b, g, x, y], _, _ =>
    rw [esc_4]
    by_cases hb : b = 42 ∧ g = 35
    · rw [if_pos hb, if_pos ⟨rfl, by rw [hb.1, hb.2]; rfl⟩]
      rfl
    · rw [if_neg hb, if_neg]
      rintro ⟨_, e⟩
      injection e with e1 e2
      injection e2 with e2
      exact hb ⟨e1, e2⟩
  | _ :: _ :: _ :: _ :: _ :: _, _, _ => rw [if_neg (by simp)]; rfl
def EVR (o : Option Nat) (e : Ending) : Prop := match o with
  | some v => e = .returned (.tuple #[.int .i32 (v : Int), .bool true])
  | none => ∃ z : Int, e = .returned (.tuple #[.int .i32 z, .bool false])
def iC (l : List Nat) : List Value := l.map fun (n : Nat) => Value.int .i32 (n : Int)
theorem iC_at {l : List Nat} {j : Nat} (h : j < l.length) : (iC l)[j]? = some (.int .i32 ((l.getD j 0 : Nat) : Int)) := by simp [iC, h]
end Go.Proofs.YtbkbhlbfkfnljaaDoor
