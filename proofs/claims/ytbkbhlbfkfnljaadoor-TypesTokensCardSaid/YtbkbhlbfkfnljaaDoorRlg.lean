/- The reference: character literals. -/
import Derived.Test.YtbkbhlbfkfnljaaDoorRlf
import Derived.Test.YtbkbhlbfkfnljaaDoorRlc
set_option linter.unusedVariables false
set_option linter.unusedSimpArgs false
namespace Go.Proofs.YtbkbhlbfkfnljaaDoor
open Go Go.RowKit L8

/-! ### A box of four that is written whole -/
theorem box4f {W : World} {B : Nat} {t : TypeId} {cs : Array Value} (h : BoxS W B t cs) : W.frozen? ⟨B, 0, none⟩ = false ∧ W.frozen? ⟨B, 1, none⟩ = false ∧ W.frozen? ⟨B, 2, none⟩ = false ∧ W.frozen? ⟨B, 3, none⟩ = false :=
  ⟨h.frozen 0, h.frozen 1, h.frozen 2, h.frozen 3⟩
theorem box4_set0 {W : World} {B : Nat} {t : TypeId} {a b c d : Value} (v : Value) (h : BoxS W B t #[a, b, c, d]) : BoxS (W.setCell ⟨B, 0, none⟩ v) B t #[v, b, c, d] := by
  obtain ⟨hlt, hk⟩ := Array.getElem?_eq_some_iff.1 h
  show (W.heap.modify B _)[B]? = _
  rw [Array.getElem?_eq_getElem (by rw [Array.size_modify]; exact hlt), Array.getElem_modify_self, hk]
  rfl
theorem box4_set1 {W : World} {B : Nat} {t : TypeId} {a b c d : Value} (v : Value) (h : BoxS W B t #[a, b, c, d]) : BoxS (W.setCell ⟨B, 1, none⟩ v) B t #[a, v, c, d] := by
  obtain ⟨hlt, hk⟩ := Array.getElem?_eq_some_iff.1 h
  show (W.heap.modify B _)[B]? = _
  rw [Array.getElem?_eq_getElem (by rw [Array.size_modify]; exact hlt), Array.getElem_modify_self, hk]
  rfl
theorem box4_set2 {W : World} {B : Nat} {t : TypeId} {a b c d : Value} (v : Value) (h : BoxS W B t #[a, b, c, d]) : BoxS (W.setCell ⟨B, 2, none⟩ v) B t #[a, b, v, d] := by
  obtain ⟨hlt, hk⟩ := Array.getElem?_eq_some_iff.1 h
  show (W.heap.modify B _)[B]? = _
  rw [Array.getElem?_eq_getElem (by rw [Array.size_modify]; exact hlt), Array.getElem_modify_self, hk]
  rfl
theorem box4_set3 {W : World} {B : Nat} {t : TypeId} {a b c d : Value} (v : Value) (h : BoxS W B t #[a, b, c, d]) : BoxS (W.setCell ⟨B, 3, none⟩ v) B t #[a, b, c, v] := by
  obtain ⟨hlt, hk⟩ := Array.getElem?_eq_some_iff.1 h
  show (W.heap.modify B _)[B]? = _
  rw [Array.getElem?_eq_getElem (by rw [Array.size_modify]; exact hlt), Array.getElem_modify_self, hk]
  rfl
def set4 (W : World) (B : Nat) (a b c d : Value) : World := (((W.setCell ⟨B, 0, none⟩ a).setCell ⟨B, 1, none⟩ b).setCell ⟨B, 2, none⟩ c).setCell ⟨B, 3, none⟩ d
theorem box4_all {W : World} {B : Nat} {t : TypeId} {a' b' c' d' : Value} (a b c d : Value) (h : BoxS W B t #[a', b', c', d']) : BoxS (set4 W B a b c d) B t #[a, b, c, d] := box4_set3 _ (box4_set2 _ (box4_set1 _ (box4_set0 _ h)))
theorem bset4 {n : Nat} {w W : World} (h : Below n w W) {B : Nat} (hB : n ≤ B) (a b c d : Value) : Below n w (set4 W B a b c d) := bset (bset (bset (bset h hB _) hB _) hB _) hB _
/-! ### Literals -/
def QR (o : Option (Nat × Nat)) (e : Ending) : Prop := match o with
  | some (v, n) => e = .returned (.tuple #[.agg #[.int .u8 4, .int .i64 0, .string ⟨#[]⟩, .int .i32 (v : Int)], .int .i64 (n : Int)])
  | none => e = .returned (.tuple #[.agg #[.int .u8 0, .int .i64 0, .string ⟨#[]⟩, .int .i32 0], .int .i64 0])
theorem quoted_none {s : Bs} (h : ∀ m, 3 ≤ m → m ≤ 6 → quote s m = none) : L8.quoted s = none := by
  cases hq : L8.quoted s with
  | none => rfl
  | some q =>
    obtain ⟨v, n⟩ := q
    obtain ⟨h1, h2, h3, _⟩ := quoted_iff.1 hq
    rw [h n h1 h2] at h3
    cases h3
theorem quote_far {s : Bs} {m : Nat} (h : ¬ m ≤ s.length) : quote s m = none := by unfold quote; rw [if_neg h]
theorem quote_no {s : Bs} {m : Nat} (h : escape ((s.take (m - 1)).drop 1) = none) : quote s m = none := by
  unfold quote
  split
  · rw [h]
  · rfl
theorem quote_end {s : Bs} {m v : Nat} (h : escape ((s.take (m - 1)).drop 1) = some v) (h2 : s.getD (m - 1) 0 ≠ 39) : quote s m = none := by
  unfold quote
  rw [h]
  by_cases hm : m ≤ s.length
  · rw [if_pos hm]; exact if_neg h2
  · rw [if_neg hm]
theorem quote_yes {s : Bs} {m v : Nat} (hm : m ≤ s.length) (h : escape ((s.take (m - 1)).drop 1) = some v) (h2 : s.getD (m - 1) 0 = 39) : quote s m = some (v, m) := by
  unfold quote
  rw [if_pos hm, h]; exact if_pos h2
def z4 : Array Value := #[.int .u8 0, .int .i64 0, .string ⟨#[]⟩, .int .i32 0]
end Go.Proofs.YtbkbhlbfkfnljaaDoor
