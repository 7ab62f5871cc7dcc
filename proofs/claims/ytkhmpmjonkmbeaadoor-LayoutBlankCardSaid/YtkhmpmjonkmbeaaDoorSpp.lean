/- Lines split and joined, a line put between: plain Lean. -/
import Derived.Test.YtkhmpmjonkmbeaaDoorBrp
import Derived.Lib.SplitLaws
import Derived.Lib.IndexBytes
set_option linter.unusedVariables false
set_option linter.unusedSimpArgs false
namespace Go.Proofs.YtkhmpmjonkmbeaaDoor.L7
open Go

theorem split_lns : ∀ (k : Nat) (l : Bs), (lnsOf l).length ≤ k + 1 → Lib.splitK [10] 0 k l = lnsOf l := by
  intro k
  induction k with
  | zero =>
    intro l h
    show [l] = lnsOf l
    rcases rest_part l with ⟨_, h2⟩ | ⟨h1, h2, h3⟩
    · exact (lns_single h2).symm
    · rw [lns_part h2 h3, List.length_cons] at h
      have := (lns_len (l.drop (upto l 10 + 1))).1
      omega
  | succ k ih =>
    intro l h
    unfold Lib.splitK
    rw [Lib.index_one, ib_upto]
    rcases rest_part l with ⟨h1, h2⟩ | ⟨h1, h2, h3⟩
    · rw [if_neg (show ¬ upto l 10 < l.length by omega), if_pos (by decide)]
      exact (lns_single h2).symm
    · rw [if_pos h1]
      have hne : (((upto l 10 : Nat) : Int) == -1) = false := by simp
      rw [hne]
      rw [lns_part h2 h3, List.length_cons] at h
      simp only [Bool.false_eq_true, if_false, Int.toNat_natCast, Nat.add_zero, List.length_cons, List.length_nil, Nat.zero_add]
      rw [ih _ (by omega), ← lns_part h2 h3]
theorem count_ten (l : Bs) : Lib.count l [10] + 1 = (lnsOf l).length := by
  rw [Lib.count_one]
  exact count_lns l
/-- What stands behind the joined lines' length. -/
theorem join_sum {ls : List Bs} (hne : ls ≠ []) (h : ∀ l ∈ ls, No10 l) : (Lib.join ls [10]).length + 1 = (ls.map fun l => l.length + 1).sum := by
  rw [← lns_sum, lns_join hne h]
theorem put_sum (ls : List Bs) (b : Bs) (j : Nat) : ((ls.take j ++ b :: ls.drop j).map fun l => l.length + 1).sum = (ls.map fun l => l.length + 1).sum + (b.length + 1) := by
  have h : (ls.map fun l => l.length + 1).sum = ((ls.take j).map fun l => l.length + 1).sum + ((ls.drop j).map fun l => l.length + 1).sum := by
    conv => lhs; rw [← List.take_append_drop j ls, List.map_append, List.sum_append]
  rw [List.map_append, List.sum_append, List.map_cons, List.sum_cons, h]
  omega
theorem put_no {s : Bs} {b : Bs} (hb : No10 b) (j : Nat) : ∀ l ∈ (lnsOf s).take j ++ b :: (lnsOf s).drop j, No10 l := by
  intro l hl
  rcases List.mem_append.1 hl with hl | hl
  · exact lns_no l (List.mem_of_mem_take hl)
  · rcases List.mem_cons.1 hl with rfl | hl
    · exact hb
    · exact lns_no l (List.mem_of_mem_drop hl)
/-- The text with a line put between, and what is read of it. -/
def putS (s b : Bs) (j : Nat) : Bs := Lib.join ((lnsOf s).take j ++ b :: (lnsOf s).drop j) [10]
theorem putS_len {s b : Bs} {j : Nat} (hb : No10 b) : (putS s b j).length = s.length + b.length + 1 := by
  have h := join_sum (ls := (lnsOf s).take j ++ b :: (lnsOf s).drop j) (by simp) (put_no hb j)
  rw [put_sum, lns_sum] at h
  unfold putS
  omega
theorem putS_rows {s b : Bs} {j : Nat} (hp : b.all plainB = true) (he : (cutL b).2.isEmpty = true) (hs : s.length + b.length + 1 ≤ 65536) :
    rows (putS s b j) = ((rows s).1.map (upR j), upZ j (rows s).2.1, (rows s).2.2) := by
  have hb := plain_no hp
  rw [rows_core (s := putS s b j) (by rw [putS_len hb]; exact hs), rows_core (s := s) (by omega)]
  unfold putS
  rw [lns_join (by simp) (put_no hb j)]
  exact blank_core hp he (lnsOf s) j
/-- The blank line. -/
def blankL (n : Nat) (c : Bs) : Bs := if c = [] then List.replicate n 32 else List.replicate n 32 ++ 45 :: 45 :: c
theorem blank_plain {n : Nat} {c : Bs} (h : c.all plainB = true) : (blankL n c).all plainB = true := by
  unfold blankL
  split
  · have := sp_plain n (t := []) rfl
    rwa [List.append_nil] at this
  · refine sp_plain n ?_
    rw [List.all_cons, List.all_cons, h]
    rfl
theorem blank_empty (n : Nat) (c : Bs) : (cutL (blankL n c)).2.isEmpty = true := by
  unfold blankL
  split
  · exact blank_sp n
  · exact blank_com n c
theorem blank_len {n : Nat} {c : Bs} : (blankL n c).length ≤ n + c.length + 2 := by
  unfold blankL
  split
  · simp; omega
  · simp; omega
theorem up_get {l : List Rw} {i k : Nat} (h : i < l.length) : ((l.map (upR k)).getD i z0).no = upZ k (l.getD i z0).no := by
  simp [h, upR]
end Go.Proofs.YtkhmpmjonkmbeaaDoor.L7
