/- The two tables of instructions: plain lists. -/
import Derived.Lib.Hide
import Derived.Test.YtlockfoidhndeaaDoorNum
import Derived.Lib.Case
namespace Go.Proofs.YtlockfoidhndeaaDoor
open Go

/-- The functions by their numbers: the bytes of the mnemonic, how many words are taken, how many are left. -/
def fnT : List (List UInt8 × Int × Int) := [
  ([106], 0, 0),
  ([108, 100, 108, 112], 0, 1),
  ([], 0, 0),
  ([108, 100, 110, 108], 1, 1),
  ([108, 100, 99], 0, 1),
  ([108, 100, 110, 108, 112], 1, 1),
  ([], 0, 0),
  ([108, 100, 108], 0, 1),
  ([97, 100, 99], 1, 1),
  ([99, 97, 108, 108], 3, 1),
  ([99, 106], 1, 0),
  ([97, 106, 119], 0, 0),
  ([101, 113, 99], 1, 1),
  ([115, 116, 108], 1, 0),
  ([115, 116, 110, 108], 2, 0)]
/-- The operations by their codes. -/
def opT : List (List UInt8 × Int × Int) := [
  ([114, 101, 118], 2, 2),
  ([108, 98], 1, 1),
  ([98, 115, 117, 98], 2, 1),
  ([101, 110, 100, 112], 1, 0),
  ([100, 105, 102, 102], 2, 1),
  ([97, 100, 100], 2, 1),
  ([103, 99, 97, 108, 108], 1, 1),
  ([105, 110], 3, 0),
  ([112, 114, 111, 100], 2, 1),
  ([103, 116], 2, 1),
  ([119, 115, 117, 98], 2, 1),
  ([111, 117, 116], 3, 0),
  ([115, 117, 98], 2, 1),
  ([115, 116, 97, 114, 116, 112], 2, 0),
  ([111, 117, 116, 98, 121, 116, 101], 2, 0),
  ([111, 117, 116, 119, 111, 114, 100], 2, 0),
  ([115, 101, 116, 101, 114, 114], 0, 0),
  ([], 0, 0),
  ([114, 101, 115, 101, 116, 99, 104], 1, 1),
  ([99, 115, 117, 98, 48], 2, 1),
  ([], 0, 0),
  ([115, 116, 111, 112, 112], 0, 0),
  ([108, 97, 100, 100], 3, 1),
  ([], 0, 0),
  ([], 0, 0),
  ([110, 111, 114, 109], 2, 3),
  ([108, 100, 105, 118], 3, 2),
  ([108, 100, 112, 105], 1, 1),
  ([], 0, 0),
  ([120, 100, 98, 108, 101], 1, 2),
  ([108, 100, 112, 114, 105], 0, 1),
  ([114, 101, 109], 2, 1),
  ([114, 101, 116], 0, 0),
  ([108, 101, 110, 100], 2, 0),
  ([108, 100, 116, 105, 109, 101, 114], 0, 1),
  ([], 0, 0),
  ([], 0, 0),
  ([], 0, 0),
  ([], 0, 0),
  ([], 0, 0),
  ([], 0, 0),
  ([116, 101, 115, 116, 101, 114, 114], 0, 1),
  ([], 0, 0),
  ([116, 105, 110], 1, 0),
  ([100, 105, 118], 2, 1),
  ([], 0, 0),
  ([100, 105, 115, 116], 3, 1),
  ([100, 105, 115, 99], 3, 1),
  ([100, 105, 115, 115], 2, 1),
  ([108, 109, 117, 108], 3, 2),
  ([110, 111, 116], 1, 1),
  ([120, 111, 114], 2, 1),
  ([98, 99, 110, 116], 1, 1),
  ([108, 115, 104, 114], 3, 2),
  ([108, 115, 104, 108], 3, 2),
  ([108, 115, 117, 109], 3, 2),
  ([108, 115, 117, 98], 3, 1),
  ([114, 117, 110, 112], 1, 0),
  ([120, 119, 111, 114, 100], 2, 1),
  ([115, 98], 2, 0),
  ([103, 97, 106, 119], 1, 1),
  ([], 0, 0),
  ([], 0, 0),
  ([119, 99, 110, 116], 1, 2),
  ([115, 104, 114], 2, 1),
  ([115, 104, 108], 2, 1),
  ([109, 105, 110, 116], 0, 1),
  ([97, 108, 116], 0, 0),
  ([97, 108, 116, 119, 116], 0, 0),
  ([97, 108, 116, 101, 110, 100], 0, 0),
  ([97, 110, 100], 2, 1),
  ([101, 110, 98, 116], 2, 1),
  ([101, 110, 98, 99], 2, 1),
  ([101, 110, 98, 115], 1, 1),
  ([109, 111, 118, 101], 3, 0),
  ([111, 114], 2, 1),
  ([99, 115, 110, 103, 108], 2, 1),
  ([99, 99, 110, 116, 49], 2, 1),
  ([116, 97, 108, 116], 0, 0),
  ([108, 100, 105, 102, 102], 3, 2),
  ([], 0, 0),
  ([116, 97, 108, 116, 119, 116], 0, 0),
  ([115, 117, 109], 2, 1),
  ([109, 117, 108], 2, 1),
  ([115, 116, 116, 105, 109, 101, 114], 1, 0),
  ([115, 116, 111, 112, 101, 114, 114], 0, 0),
  ([99, 119, 111, 114, 100], 2, 1),
  ([99, 108, 114, 104, 97, 108, 116, 101, 114, 114], 0, 0),
  ([115, 101, 116, 104, 97, 108, 116, 101, 114, 114], 0, 0),
  ([116, 101, 115, 116, 104, 97, 108, 116, 101, 114, 114], 0, 1)]
/-- The row of an instruction. -/
def rowL (f a : Int) : List UInt8 × Int × Int :=
  if f < 15 then fnT.getD f.toNat ([], 0, 0) else if f = 15 ∧ 0 ≤ a ∧ a < 90 then opT.getD a.toNat ([], 0, 0) else ([], 0, 0)
def nm (f a : Int) : List UInt8 := (rowL f a).1
def tk (f a : Int) : Int := (rowL f a).2.1
def lv (f a : Int) : Int := (rowL f a).2.2
/-- The instruction exists. -/
def ex (f a : Int) : Bool := !(nm f a).isEmpty
/-- The instructions with a mnemonic of their own, in the order of the tables. -/
def insts : List (Int × Int) := (((List.range 15).map fun (i : Nat) => ((i : Int), (0 : Int))) ++ ((List.range 90).map fun (i : Nat) => ((15 : Int), (i : Int)))).filter fun p => ex p.1 p.2
def findI (l : List UInt8) : Option (Int × Int) := insts.find? fun p => nm p.1 p.2 == l
def ndF (l : List UInt8) : Int := ((findI l).getD (0, 0)).1
def ndA (l : List UInt8) : Int := ((findI l).getD (0, 0)).2
def ndO (l : List UInt8) : Bool := (findI l).isSome

/-- What the tables have been asked by the kernel. -/
theorem inst_facts : (insts.all fun p => findI (nm p.1 p.2) == some p && ex p.1 p.2 && (decide (0 ≤ p.1) && decide (p.1 ≤ 15) && decide (0 ≤ p.2) && decide (p.2 < 90) && (p.1 == 15 || p.2 == 0)) && (nm p.1 p.2).all (fun c => decide (c ≠ 32) && decide (c < 128)) && Lib.toLowerA (nm p.1 p.2) == nm p.1 p.2 && findI (Lib.toUpperA (nm p.1 p.2)) == none && decide ((nm p.1 p.2).length ≤ 11)
    && (decide (0 ≤ tk p.1 p.2) && decide (tk p.1 p.2 ≤ 3) && decide (0 ≤ lv p.1 p.2) && decide (lv p.1 p.2 ≤ 3) && decide (lv p.1 p.2 ≤ tk p.1 p.2 + 1))) = true := by decide +kernel
theorem fn_all : ((List.range 15).all fun (i : Nat) => (fnT.getD i ([], 0, 0)).1.isEmpty || insts.contains ((i : Int), 0)) = true := by decide +kernel
theorem op_all : ((List.range 90).all fun (i : Nat) => (opT.getD i ([], 0, 0)).1.isEmpty || insts.contains (15, (i : Int))) = true := by decide +kernel
theorem rowL_fn {f : Int} (h : f < 15) (a b : Int) : rowL f a = rowL f b := by unfold rowL; rw [if_pos h, if_pos h]
theorem rowL_no {f : Int} (h : 15 < f) (a : Int) : rowL f a = ([], 0, 0) := by unfold rowL; rw [if_neg (by omega), if_neg (by omega)]
theorem rowL_out {a : Int} (h : a < 0 ∨ 90 ≤ a) : rowL 15 a = ([], 0, 0) := by unfold rowL; rw [if_neg (by omega), if_neg (by omega)]
theorem nm_fn {f : Int} (h : f < 15) (a : Int) : nm f a = nm f 0 := by unfold nm; rw [rowL_fn h a 0]
/-- An instruction that exists is one of the list, but for a function's operand. -/
theorem ex_mem {f a : Int} (h0 : 0 ≤ f) (h : ex f a = true) : (f, if f = 15 then a else 0) ∈ insts := by
  by_cases hf : f < 15
  · rw [if_neg (by omega)]
    have hr : nm f a = (fnT.getD f.toNat ([], 0, 0)).1 := by unfold nm rowL; rw [if_pos hf]
    have := List.all_eq_true.1 fn_all f.toNat (by rw [List.mem_range]; omega)
    rw [← hr] at this
    have he : (nm f a).isEmpty = false := by unfold ex at h; simpa using h
    rw [he, Bool.false_or, show ((f.toNat : Nat) : Int) = f by omega] at this
    simpa using this
  · by_cases h15 : f = 15 ∧ 0 ≤ a ∧ a < 90
    · obtain ⟨rfl, a0, a1⟩ := h15
      rw [if_pos rfl]
      have hr : nm 15 a = (opT.getD a.toNat ([], 0, 0)).1 := by unfold nm rowL; rw [if_neg (by decide), if_pos ⟨rfl, a0, a1⟩]
      have := List.all_eq_true.1 op_all a.toNat (by rw [List.mem_range]; omega)
      rw [← hr] at this
      have he : (nm 15 a).isEmpty = false := by unfold ex at h; simpa using h
      rw [he, Bool.false_or, show ((a.toNat : Nat) : Int) = a by omega] at this
      simpa using this
    · have : ex f a = false := by unfold ex nm rowL; rw [if_neg hf, if_neg h15]; rfl
      rw [this] at h
      cases h
theorem ex_nm {f a b : Int} (h : f < 15 ∨ a = b) : ex f a = ex f b ∧ nm f a = nm f b ∧ tk f a = tk f b ∧ lv f a = lv f b := by
  have : rowL f a = rowL f b := by
    rcases h with h | h
    · exact rowL_fn h a b
    · rw [h]
  unfold ex nm tk lv
  rw [this]
  exact ⟨rfl, rfl, rfl, rfl⟩
theorem ex_le {f a : Int} (h : ex f a = true) : f ≤ 15 ∧ (f = 15 → 0 ≤ a ∧ a < 90) := by
  refine ⟨?_, ?_⟩
  · by_cases h1 : 15 < f
    · unfold ex nm at h; rw [rowL_no h1] at h; cases h
    · omega
  · rintro rfl
    by_cases h1 : a < 0 ∨ 90 ≤ a
    · unfold ex nm at h; rw [rowL_out h1] at h; cases h
    · omega
/-- What is known of an instruction that exists. -/
theorem ex_facts {f a : Int} (h0 : 0 ≤ f) (h : ex f a = true) :
    findI (nm f a) = some (f, if f = 15 then a else 0) ∧ (∀ c ∈ nm f a, c ≠ 32 ∧ c < 128) ∧ Lib.toLowerA (nm f a) = nm f a ∧ findI (Lib.toUpperA (nm f a)) = none ∧ (nm f a).length ≤ 11 ∧ 0 ≤ tk f a ∧ tk f a ≤ 3 ∧ 0 ≤ lv f a ∧ lv f a ≤ 3 ∧ lv f a ≤ tk f a + 1 := by
  have hm := ex_mem h0 h
  have hl := ex_le h
  have hA := List.all_eq_true.1 inst_facts _ hm
  have hn : nm f (if f = 15 then a else 0) = nm f a ∧ tk f (if f = 15 then a else 0) = tk f a ∧ lv f (if f = 15 then a else 0) = lv f a := by
    by_cases h15 : f = 15
    · rw [if_pos h15]; exact ⟨rfl, rfl, rfl⟩
    · rw [if_neg h15]; obtain ⟨_, h1, h2, h3⟩ := ex_nm (a := 0) (b := a) (.inl (show f < 15 by omega)); exact ⟨h1, h2, h3⟩
  simp only [hn.1, hn.2.1, hn.2.2, Bool.and_eq_true, decide_eq_true_eq, beq_iff_eq, List.all_eq_true] at hA
  obtain ⟨⟨⟨⟨⟨⟨⟨h1, _⟩, _⟩, h2⟩, h3⟩, h4⟩, h5⟩, ⟨⟨⟨h6, h7⟩, h8⟩, h9⟩, h10⟩ := hA
  exact ⟨h1, h2, h3, h4, h5, h6, h7, h8, h9, h10⟩
theorem find_some {l : List UInt8} {p : Int × Int} (h : findI l = some p) : ex p.1 p.2 = true ∧ nm p.1 p.2 = l ∧ 0 ≤ p.1 ∧ p.1 ≤ 15 ∧ 0 ≤ p.2 ∧ p.2 < 90 ∧ (p.1 = 15 ∨ p.2 = 0) := by
  have hm : p ∈ insts := List.mem_of_find?_eq_some h
  have hn := List.find?_some h
  have hA := List.all_eq_true.1 inst_facts _ hm
  simp only [Bool.and_eq_true, Bool.or_eq_true, decide_eq_true_eq, beq_iff_eq, List.all_eq_true] at hA hn
  obtain ⟨⟨⟨⟨⟨⟨⟨_, h1⟩, ⟨⟨⟨h2, h3⟩, h4⟩, h5⟩, h6⟩, _⟩, _⟩, _⟩, _⟩, _⟩ := hA
  exact ⟨h1, hn, h2, h3, h4, h5, h6⟩
theorem nd_bd (l : List UInt8) : 0 ≤ ndF l ∧ ndF l ≤ 15 ∧ 0 ≤ ndA l ∧ ndA l < 90 ∧ (ndF l = 15 ∨ ndA l = 0) := by
  unfold ndF ndA
  cases h : findI l with
  | none => exact ⟨by decide, by decide, by decide, by decide, .inr rfl⟩
  | some p => obtain ⟨_, _, h1, h2, h3, h4, h5⟩ := find_some h; exact ⟨h1, h2, h3, h4, h5⟩

/-! ### Texts -/
def txL (f a : Int) : List UInt8 := if ex f a = true then (if f = 15 then nm f a else nm f a ++ 32 :: textL a false) else []
def txE (f a : Int) : Int := if ex f a = true then 0 else 2
/-- The part before the first space, and what comes behind it, if there is one. -/
def hd (l : List UInt8) : List UInt8 := l.takeWhile (· != 32)
def tl (l : List UInt8) : List UInt8 := (l.dropWhile (· != 32)).drop 1
def hasSp (l : List UInt8) : Bool := !(l.dropWhile (· != 32)).isEmpty
/-- What a text is read as. -/
def rdI (l : List UInt8) : Int × Int × Int := match findI (hd l) with
  | none => (0, 0, 50)
  | some p => if p.1 = 15 then (if hasSp l = true then (0, 0, 5) else (p.1, p.2, 0)) else if hasSp l = true then (if (readC (tl l)).2 = 0 then (p.1, (readC (tl l)).1, 0) else (0, 0, 5)) else (0, 0, 5)

theorem hd_cons {n x : List UInt8} (h : ∀ c ∈ n, c ≠ 32) : hd (n ++ 32 :: x) = n ∧ tl (n ++ 32 :: x) = x ∧ hasSp (n ++ 32 :: x) = true := by
  have h1 : (n ++ 32 :: x).takeWhile (· != 32) = n := by
    rw [List.takeWhile_append_of_pos (by intro c hc; simpa using h c hc)]
    simp
  have h2 : (n ++ 32 :: x).dropWhile (· != 32) = 32 :: x := by
    rw [List.dropWhile_append_of_pos (by intro c hc; simpa using h c hc)]
    simp
  unfold hd tl hasSp
  rw [h1, h2]
  exact ⟨rfl, rfl, rfl⟩
theorem hd_none {n : List UInt8} (h : ∀ c ∈ n, c ≠ 32) : hd n = n ∧ hasSp n = false := by
  have h1 : n.takeWhile (· != 32) = n := by
    have := List.takeWhile_append_of_pos (p := (· != (32 : UInt8))) (l₁ := n) (l₂ := []) (by intro c hc; simpa using h c hc)
    simpa using this
  have h2 : n.dropWhile (· != 32) = [] := by
    have := List.dropWhile_append_of_pos (p := (· != (32 : UInt8))) (l₁ := n) (l₂ := []) (by intro c hc; simpa using h c hc)
    simpa using this
  unfold hd hasSp
  rw [h1, h2]
  exact ⟨rfl, rfl⟩
theorem hasSp_cases (l : List UInt8) : (hasSp l = true ∧ l = hd l ++ 32 :: tl l ∧ ∀ c ∈ hd l, c ≠ 32) ∨ (hasSp l = false ∧ hd l = l ∧ tl l = [] ∧ ∀ c ∈ l, c ≠ 32) := by
  have hall : ∀ c ∈ hd l, c ≠ 32 := by
    intro c hc
    have := List.all_eq_true.1 (List.all_takeWhile (p := (· != (32 : UInt8))) (l := l)) c hc
    simpa using this
  have hsplit : l.takeWhile (· != 32) ++ l.dropWhile (· != 32) = l := List.takeWhile_append_dropWhile
  cases hd' : l.dropWhile (· != 32) with
  | nil =>
    right
    have e : hd l = l := by unfold hd; rw [hd', List.append_nil] at hsplit; exact hsplit
    refine ⟨by unfold hasSp; rw [hd']; rfl, e, by unfold tl; rw [hd']; rfl, fun c hc => hall c (by rw [e]; exact hc)⟩
  | cons x xs =>
    left
    have hx : x = 32 := by
      have := List.head?_dropWhile_not (· != (32 : UInt8)) l
      rw [hd'] at this
      simpa using this
    subst hx
    refine ⟨by unfold hasSp; rw [hd']; rfl, ?_, hall⟩
    unfold hd tl
    rw [hd', List.drop_one, List.tail_cons]
    rw [hd'] at hsplit
    exact hsplit.symm
end Go.Proofs.YtlockfoidhndeaaDoor
