/- The reference's search for the row of an instruction. -/
import Derived.Test.YtjdjkdgdbdenpaaDoorM10
import Derived.Test.YtjdjkdgdbdenpaaDoorM09
set_option linter.unusedVariables false
set_option linter.unusedSimpArgs false
namespace Go.Proofs.YtjdjkdgdbdenpaaDoor
open Go Go.RowKit

theorem row5_at : ∀ (l : List (Int × Int)) (k : Nat) (p : Int × Int), l[k]? = some p → ∀ j : Nat, j < 5 → (l.flatMap row5)[k * 5 + j]? = (row5 p)[j]?
  | [], k, p, h, _, _ => by simp at h
  | x :: l, 0, p, h, j, hj => by
    simp only [List.getElem?_cons_zero, Option.some.injEq] at h
    subst h
    rw [List.flatMap_cons, Nat.zero_mul, Nat.zero_add, List.getElem?_append_left (by show j < 5; exact hj)]
  | x :: l, k + 1, p, h, j, hj => by
    rw [← row5_at l k p (by simpa using h) j hj, List.flatMap_cons, show (k + 1) * 5 + j = (row5 x).length + (k * 5 + j) by show _ = 5 + _; omega, List.getElem?_append_right (by omega)]
    congr 1
    omega
/-- What Find hands back. -/
def fdF (f a : Int) : Int := if ex f a = true then f else 0
def fdA (f a : Int) : Int := if ex f a = true then (if f = 15 then a else 0) else 0
def FindIs (f a : Int) (w : World) (e : Ending) (w' : World) : Prop :=
  e = .returned (.tuple #[.agg #[.int .u8 (fdF f a), .int .i32 (fdA f a), .string (strOf (nm f a)), .int .i64 (tk f a), .int .i64 (lv f a)], .bool (ex f a)]) ∧ Below w.heap.size w w'
theorem upF_len : (upF 15).length = 13 := by decide +kernel
theorem upO_len : (upO 90).length = 74 := by decide +kernel
theorem upF_mem {p : Int × Int} (h : p ∈ upF 15) : p.1 < 15 ∧ p.2 = 0 ∧ ex p.1 0 = true := by
  unfold upF at h
  rw [List.mem_filter, List.mem_map] at h
  obtain ⟨⟨i, hi, rfl⟩, he⟩ := h
  rw [List.mem_range] at hi
  exact ⟨by simp; omega, rfl, he⟩
theorem upO_mem {p : Int × Int} (h : p ∈ upO 90) : p.1 = 15 ∧ ex 15 p.2 = true := by
  unfold upO at h
  rw [List.mem_filter, List.mem_map] at h
  obtain ⟨⟨i, hi, rfl⟩, he⟩ := h
  exact ⟨rfl, he⟩
/-- The row that is found. -/
theorem find_hit {f a : Int} {p : Int × Int} (h1 : p.1 = f) (h2 : (p ∈ upF 15) ∨ (p ∈ upO 90 ∧ p.2 = a)) (h15 : p ∈ upO 90 ↔ f = 15) : fdF f a = p.1 ∧ fdA f a = p.2 ∧ nm f a = nm p.1 p.2 ∧ tk f a = tk p.1 p.2 ∧ lv f a = lv p.1 p.2 ∧ ex f a = true := by
  subst h1
  rcases h2 with h | ⟨h, rfl⟩
  · obtain ⟨k1, k2, k3⟩ := upF_mem h
    obtain ⟨e1, e2, e3, e4⟩ := ex_nm (f := p.1) (a := a) (b := p.2) (.inl k1)
    have he : ex p.1 a = true := by rw [e1, k2]; exact k3
    exact ⟨by unfold fdF; rw [if_pos he], by unfold fdA; rw [if_pos he, if_neg (by omega), k2], e2, e3, e4, he⟩
  · obtain ⟨k1, k2⟩ := upO_mem h
    have he : ex p.1 p.2 = true := by rw [k1]; exact k2
    exact ⟨by unfold fdF; rw [if_pos he], by unfold fdA; rw [if_pos he, if_pos k1], rfl, rfl, rfl, he⟩
theorem find_miss {f a : Int} (hf : 0 ≤ f) (h1 : f ≠ 15 → ∀ p ∈ upF 15, p.1 ≠ f) (h2 : f = 15 → ∀ p ∈ upO 90, p.2 ≠ a) : fdF f a = 0 ∧ fdA f a = 0 ∧ nm f a = [] ∧ tk f a = 0 ∧ lv f a = 0 ∧ ex f a = false := by
  have he : ex f a = false := by
    rw [Bool.eq_false_iff]
    intro he
    have hm := ex_mem hf he
    rw [insts_eq, List.mem_append] at hm
    by_cases h15 : f = 15
    · rcases hm with hm | hm
      · have := (upF_mem hm).1; simp only at this; omega
      · rw [if_pos h15] at hm
        exact h2 h15 _ hm rfl
    · rcases hm with hm | hm
      · exact h1 h15 _ hm rfl
      · exact h15 (upO_mem hm).1
  have hr : rowL f a = ([], 0, 0) := by
    by_cases h1 : f < 15
    · obtain ⟨n, hn⟩ : ∃ n : Nat, f = n := ⟨f.toNat, by omega⟩
      have hall : ((List.range 15).all fun (i : Nat) => !(fnT.getD i ([], 0, 0)).1.isEmpty || fnT.getD i ([], 0, 0) == ([], 0, 0)) = true := by decide +kernel
      have := List.all_eq_true.1 hall n (by rw [List.mem_range]; omega)
      unfold ex nm rowL at he
      unfold rowL
      rw [if_pos h1] at he ⊢
      rw [hn, Int.toNat_natCast] at he ⊢
      rw [he, Bool.false_or] at this
      simpa using this
    · by_cases h2 : f = 15 ∧ 0 ≤ a ∧ a < 90
      · have hall : ((List.range 90).all fun (i : Nat) => !(opT.getD i ([], 0, 0)).1.isEmpty || opT.getD i ([], 0, 0) == ([], 0, 0)) = true := by decide +kernel
        have := List.all_eq_true.1 hall a.toNat (by rw [List.mem_range]; omega)
        unfold ex nm rowL at he
        unfold rowL
        rw [if_neg h1, if_pos h2] at he ⊢
        rw [he, Bool.false_or] at this
        simpa using this
      · unfold rowL; rw [if_neg h1, if_neg h2]
  obtain ⟨_, e2, e3, _⟩ := none_row hr
  exact ⟨by unfold fdF; rw [he]; rfl, by unfold fdA; rw [he]; rfl, by unfold nm; rw [hr], e2, e3, he⟩
end Go.Proofs.YtjdjkdgdbdenpaaDoor
/- The reference's search for the row of an instruction: its walk. -/
namespace Go.Proofs.YtjdjkdgdbdenpaaDoor
open Go Go.RowKit

theorem box5 {W : World} {k : Nat} {t : TypeId} {a b c d e : Value} (h : BoxS W k t #[a, b, c, d, e]) :
    W.cell? ⟨k, 0, none⟩ = some a ∧ W.cell? ⟨k, 1, none⟩ = some b ∧ W.cell? ⟨k, 2, none⟩ = some c ∧ W.cell? ⟨k, 3, none⟩ = some d ∧ W.cell? ⟨k, 4, none⟩ = some e ∧
    W.frozen? ⟨k, 0, none⟩ = false ∧ W.frozen? ⟨k, 1, none⟩ = false ∧ W.frozen? ⟨k, 2, none⟩ = false ∧ W.frozen? ⟨k, 3, none⟩ = false ∧ W.frozen? ⟨k, 4, none⟩ = false ∧ k < W.heap.size :=
  ⟨by simpa using h.cell 0, by simpa using h.cell 1, by simpa using h.cell 2, by simpa using h.cell 3, by simpa using h.cell 4, h.frozen 0, h.frozen 1, h.frozen 2, h.frozen 3, h.frozen 4, h.lt⟩
end Go.Proofs.YtjdjkdgdbdenpaaDoor
