/- How many instructions there are: plain lists, and a map of their names. -/
import Derived.Test.YtlockfoidhndeaaDoorLawsB
import Derived.Maps.Own
import Derived.Maps.OwnSet
import Derived.Maps.Views
import Derived.StringKeys
namespace Go.Proofs.YtlockfoidhndeaaDoor
open Go Go.RowKit Go.Maps

/-- The functions whose rows have been met, and the operations. -/
def dF (k j : Nat) : List (Int × Int) := if k < 15 then upF (if j = 0 then k else k + 1) else upF 15
def dO (k j : Nat) : List (Int × Int) := if k < 15 then [] else if k = 15 then upO (min j 90) else upO 90
def keyN (p : Int × Int) : Lit := .string (nm p.1 p.2)
/-- The map holds just the names that have been met. -/
def MapRel {H : Type} (D : DataW H) (L : List (Int × Int)) : Prop := Tidy D ∧ Maps.size D = L.length ∧ ∀ x : Lit, Maps.has D x = L.any fun p => (keyN p).sameKey x
theorem keyN_lit (p : Int × Int) : WideAt.IsKeyLit (keyN p) := trivial
theorem mapRel_empty {H : Type} : MapRel (.map [] : DataW H) [] := ⟨tidy_empty, rfl, fun _ => rfl⟩
theorem has_of_mem {H : Type} {D : DataW H} {L : List (Int × Int)} (h : MapRel D L) {p : Int × Int} (hp : p ∈ L) {x : Lit} (hx : x = keyN p) : Maps.has D x = true := by
  rw [h.2.2 x, List.any_eq_true]
  exact ⟨p, hp, by rw [hx]; exact WideAt.sameKey_self (keyN_lit p)⟩
theorem mapRel_old {H : Type} {D : DataW H} {L : List (Int × Int)} (h : MapRel D L) {p : Int × Int} (hp : p ∈ L) (d : DataW H) : MapRel (D.put (keyN p) d) L := by
  have hh := has_of_mem h hp rfl
  refine ⟨h.1.put (keyN_lit p) d, ?_, fun x => ?_⟩
  · rw [size_put h.1, if_pos hh]; exact h.2.1
  · by_cases hx : x = keyN p
    · subst hx
      rw [has_put_same h.1.isMap (keyN_lit p), ← h.2.2, hh]
    · rw [has_put_other hx]; exact h.2.2 x
theorem mapRel_new {H : Type} {D : DataW H} {L : List (Int × Int)} (h : MapRel D L) {p : Int × Int} (hp : ∀ q ∈ L, nm q.1 q.2 ≠ nm p.1 p.2) (d : DataW H) : MapRel (D.put (keyN p) d) (L ++ [p]) := by
  have hh : Maps.has D (keyN p) = false := by
    rw [h.2.2, List.any_eq_false]
    intro q hq
    rw [sameKey_ne (fun e => hp q hq (by unfold keyN at e; injection e))]
    decide
  refine ⟨h.1.put (keyN_lit p) d, ?_, fun x => ?_⟩
  · rw [size_put h.1, hh, if_neg (by decide), h.2.1, List.length_append]; rfl
  · rw [List.any_append]
    by_cases hx : x = keyN p
    · subst hx
      rw [has_put_same h.1.isMap (keyN_lit p)]
      simp [WideAt.sameKey_self (keyN_lit p)]
    · rw [has_put_other hx, h.2.2 x]
      simp [sameKey_ne (fun e => hx e.symm)]
theorem upF_mem2 {p : Int × Int} {k : Nat} (h : p ∈ upF k) : p.1 < k ∧ p.2 = 0 ∧ ex p.1 0 = true := by
  unfold upF at h
  rw [List.mem_filter, List.mem_map] at h
  obtain ⟨⟨i, hi, rfl⟩, he⟩ := h
  rw [List.mem_range] at hi
  exact ⟨by simp; omega, rfl, he⟩
theorem upO_mem2 {p : Int × Int} {k : Nat} (h : p ∈ upO k) : p.1 = 15 ∧ p.2 < k ∧ ex 15 p.2 = true := by
  unfold upO at h
  rw [List.mem_filter, List.mem_map] at h
  obtain ⟨⟨i, hi, rfl⟩, he⟩ := h
  rw [List.mem_range] at hi
  exact ⟨rfl, by simp; omega, he⟩
theorem nm_inj {p q : Int × Int} (hp : p ∈ insts) (hq : q ∈ insts) (h : nm p.1 p.2 = nm q.1 q.2) : p = q := by
  have h1 := find_of_mem hp
  have h2 := find_of_mem hq
  rw [h, h2] at h1
  injection h1 with h1
  exact h1.symm
/-- A function whose row is met for the first time. -/
theorem d_fn_new {k : Nat} (hk : k < 15) (he : ex (k : Int) 0 = true) : dF k 1 = dF k 0 ++ [((k : Int), 0)] ∧ dO k 1 = dO k 0 ∧ ∀ q ∈ dF k 0 ++ dO k 0, nm q.1 q.2 ≠ nm (k : Int) 0 := by
  unfold dF dO
  simp only [if_pos hk, if_true, if_neg (show ¬ (1 : Nat) = 0 by decide)]
  refine ⟨by rw [upF_succ, if_pos he], trivial, fun q hq e => ?_⟩
  rw [List.append_nil] at hq
  have := upF_mem2 hq
  have hm : ((k : Int), (0 : Int)) ∈ insts := by have := ex_mem (f := (k : Int)) (by omega) he; rwa [if_neg (by omega)] at this
  have h1 := nm_inj ((upF_all (k := k) (by omega)).subset hq) hm e
  rw [h1] at this
  simp only at this
  omega
theorem d_fn_none {k : Nat} (hk : k < 15) (he : ex (k : Int) 0 = false) : dF k 1 = dF k 0 ∧ dO k 1 = dO k 0 := by
  unfold dF dO
  simp only [if_pos hk, if_true, if_neg (show ¬ (1 : Nat) = 0 by decide)]
  exact ⟨by rw [upF_succ, he, if_neg (by decide), List.append_nil], trivial⟩
theorem d_fn_old {k j : Nat} (hk : k < 15) (hj : j ≠ 0) : dF k (j + 1) = dF k j ∧ dO k (j + 1) = dO k j ∧ (ex (k : Int) 0 = true → ((k : Int), (0 : Int)) ∈ dF k j ++ dO k j) := by
  unfold dF dO
  simp only [if_pos hk, if_neg hj, if_neg (show ¬ j + 1 = 0 by omega)]
  refine ⟨trivial, trivial, fun he => ?_⟩
  rw [List.append_nil, upF_succ, if_pos he]
  simp
theorem d_op_new {j : Nat} (hj : j < 90) (he : ex 15 (j : Int) = true) : dF 15 (j + 1) = dF 15 j ∧ dO 15 (j + 1) = dO 15 j ++ [(15, (j : Int))] ∧ ∀ q ∈ dF 15 j ++ dO 15 j, nm q.1 q.2 ≠ nm 15 (j : Int) := by
  unfold dF dO
  simp only [if_neg (show ¬ (15 : Nat) < 15 by decide), if_true]
  rw [show min (j + 1) 90 = j + 1 by omega, show min j 90 = j by omega]
  refine ⟨trivial, by rw [upO_succ, if_pos he], fun q hq e => ?_⟩
  have hm : ((15 : Int), (j : Int)) ∈ insts := by have := ex_mem (f := 15) (by decide) he; rwa [if_pos rfl] at this
  have h1 := nm_inj ((upO_all (k := j) (by omega)).subset hq) hm e
  rcases List.mem_append.1 hq with h | h
  · have := upF_mem2 h; rw [h1] at this; simp only at this; omega
  · have := upO_mem2 h; rw [h1] at this; simp only at this; omega
theorem d_op_none {j : Nat} (he : ex 15 (j : Int) = false) : dF 15 (j + 1) = dF 15 j ∧ dO 15 (j + 1) = dO 15 j := by
  unfold dF dO
  simp only [if_neg (show ¬ (15 : Nat) < 15 by decide), if_true]
  refine ⟨trivial, ?_⟩
  by_cases hj : j < 90
  · rw [show min (j + 1) 90 = j + 1 by omega, show min j 90 = j by omega, upO_succ, he, if_neg (by decide), List.append_nil]
  · rw [show min (j + 1) 90 = min j 90 by omega]
theorem d_great {k j : Nat} (hk : 15 < k) : dF k (j + 1) = dF k j ∧ dO k (j + 1) = dO k j := by
  unfold dF dO
  simp only [if_neg (show ¬ k < 15 by omega), if_neg (show ¬ k = 15 by omega)]
  exact ⟨trivial, trivial⟩
theorem d_next (k : Nat) : dF (k + 1) 0 = dF k 256 ∧ dO (k + 1) 0 = dO k 256 := by
  unfold dF dO
  by_cases h1 : k + 1 < 15
  · simp only [if_pos h1, if_pos (show k < 15 by omega), if_neg (show ¬ (256 : Nat) = 0 by decide), if_true]
    exact ⟨trivial, trivial⟩
  · by_cases h2 : k + 1 = 15
    · obtain rfl : k = 14 := by omega
      exact ⟨by decide +kernel, by decide +kernel⟩
    · by_cases h3 : k = 15
      · subst h3
        exact ⟨by decide +kernel, by decide +kernel⟩
      · simp only [if_neg h1, if_neg h2, if_neg (show ¬ k < 15 by omega), if_neg h3]
        exact ⟨trivial, trivial⟩
theorem d_start : dF 0 0 = [] ∧ dO 0 0 = [] := ⟨by decide +kernel, by decide +kernel⟩
theorem d_all : dF 256 0 = upF 15 ∧ dO 256 0 = upO 90 := ⟨rfl, rfl⟩
/-- One round: what becomes of the two lists. -/
theorem d_step {H : Type} {D : DataW H} {k j : Nat} (h : MapRel D (dF k j ++ dO k j)) (u : DataW H) (he : ex (k : Int) (j : Int) = true) :
    (MapRel (D.put (.string (nm (k : Int) (j : Int))) u) (dF k (j + 1) ++ dO k (j + 1))) ∧
    (dF k (j + 1)).length = (dF k j).length + (if k ≠ 15 ∧ j = 0 then 1 else 0) ∧ (dO k (j + 1)).length = (dO k j).length + (if k = 15 then 1 else 0) := by
  have hle := ex_le he
  by_cases hk : k < 15
  · obtain ⟨e1, e2, _⟩ := ex_nm (f := (k : Int)) (a := (j : Int)) (b := 0) (.inl (by omega))
    have he0 : ex (k : Int) 0 = true := e1.symm.trans he
    rw [e2]
    by_cases hj : j = 0
    · subst hj
      obtain ⟨a1, a2, a3⟩ := d_fn_new hk he0
      rw [a1, a2]
      refine ⟨?_, by rw [if_pos ⟨by omega, rfl⟩]; simp, by rw [if_neg (by omega)]; rfl⟩
      have := mapRel_new (p := ((k : Int), 0)) h a3 u
      have hO : dO k 0 = [] := by unfold dO; rw [if_pos hk]
      rw [hO, List.append_nil] at this ⊢
      exact this
    · obtain ⟨a1, a2, a3⟩ := d_fn_old hk hj
      rw [a1, a2]
      exact ⟨mapRel_old (p := ((k : Int), 0)) h (a3 he0) u, by rw [if_neg (fun e => hj e.2)]; rfl, by rw [if_neg (by omega)]; rfl⟩
  · obtain rfl : k = 15 := by omega
    have hj := (hle.2 rfl).2
    obtain ⟨a1, a2, a3⟩ := d_op_new (j := j) (by omega) he
    rw [a1, a2]
    refine ⟨?_, by rw [if_neg (fun e => e.1 rfl)]; rfl, by rw [if_pos rfl]; simp⟩
    rw [← List.append_assoc]
    exact mapRel_new (p := (15, (j : Int))) h a3 u
theorem d_skip {k j : Nat} (he : ex (k : Int) (j : Int) = false) : dF k (j + 1) = dF k j ∧ dO k (j + 1) = dO k j := by
  by_cases hk : k < 15
  · obtain ⟨e1, _⟩ := ex_nm (f := (k : Int)) (a := (j : Int)) (b := 0) (.inl (by omega))
    by_cases hj : j = 0
    · subst hj; exact d_fn_none hk (e1.symm.trans he)
    · obtain ⟨a1, a2, _⟩ := d_fn_old hk hj; exact ⟨a1, a2⟩
  · by_cases h15 : k = 15
    · subst h15; exact d_op_none he
    · exact d_great (by omega)
end Go.Proofs.YtlockfoidhndeaaDoor
