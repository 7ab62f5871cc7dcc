/- Rows are grouped line by line: the program's way, and that it is the chapter's. Plain Lean. -/
import Derived.Test.YtkhmpmjonkmbeaaDoorPln
set_option linter.unusedVariables false
set_option linter.unusedSimpArgs false
namespace Go.Proofs.YtkhmpmjonkmbeaaDoor.L7
open Go

def z0 : Rw := ⟨0, 0, []⟩
/-- A line as the program keeps it. -/
def itL (x : Item) : Rw := ⟨x.1, x.2.1, x.2.2⟩
def deep (l : List Rw) : Int := if l.length = 0 then 0 else (l.getD (l.length - 1) z0).dp + 1
def indOk (x : Rw) (op l : List Rw) : Bool := if op.length = 0 then (x.dp % 2 == 0 && decide (x.dp / 2 ≤ deep l)) else decide ((op.getD 0 z0).dp ≤ x.dp)
def txs (op : List Rw) : List Bs := op.map fun x => x.tx
def joinR (op : List Rw) : Rw := ⟨(op.getD 0 z0).no, (op.getD 0 z0).dp / 2, Lib.join (txs op) [32]⟩
def within (x : Rw) : Bool := decide (x.dp ≤ 32) && decide (x.tx.length ≤ 256)
abbrev St := List Rw × List Rw
def stepG (s : St) (x : Rw) : Except (Int × Int) St :=
  if indOk x s.1 s.2 = true then
    if conts x.tx = true then .ok (s.1 ++ [x], s.2)
    else if within (joinR (s.1 ++ [x])) = true ∧ ¬ s.2.length = 2048 then .ok ([], s.2 ++ [joinR (s.1 ++ [x])]) else .error ((joinR (s.1 ++ [x])).no, 3)
  else .error (x.no, 70)
def allG (s : St) : List Item → Except (Int × Int) (List Rw)
  | [] => if s.1.length = 0 then .ok s.2 else .error ((s.1.getD (s.1.length - 1) z0).no, 5)
  | x :: r => match stepG s (itL x) with
    | .error e => .error e
    | .ok s' => allG s' r
/-- The state behind some lines. -/
def runG (s : St) : List Item → Except (Int × Int) St
  | [] => .ok s
  | x :: r => match stepG s (itL x) with
    | .error e => .error e
    | .ok s' => runG s' r
theorem allG_nil (s : St) : allG s [] = if s.1.length = 0 then .ok s.2 else .error ((s.1.getD (s.1.length - 1) z0).no, 5) := rfl
theorem allG_err {s : St} {x : Item} {r : List Item} {e : Int × Int} (h : stepG s (itL x) = .error e) : allG s (x :: r) = .error e := by
  show (match stepG s (itL x) with | .error e => Except.error e | .ok s' => allG s' r) = _
  rw [h]
theorem allG_ok {s s' : St} {x : Item} {r : List Item} (h : stepG s (itL x) = .ok s') : allG s (x :: r) = allG s' r := by
  show (match stepG s (itL x) with | .error e => Except.error e | .ok s' => allG s' r) = _
  rw [h]
theorem runG_err {s : St} {x : Item} {r : List Item} {e : Int × Int} (h : stepG s (itL x) = .error e) : runG s (x :: r) = .error e := by
  show (match stepG s (itL x) with | .error e => Except.error e | .ok s' => runG s' r) = _
  rw [h]
theorem runG_ok {s s' : St} {x : Item} {r : List Item} (h : stepG s (itL x) = .ok s') : runG s (x :: r) = runG s' r := by
  show (match stepG s (itL x) with | .error e => Except.error e | .ok s' => runG s' r) = _
  rw [h]
theorem step_bad {s : St} {x : Rw} (h : indOk x s.1 s.2 = false) : stepG s x = .error (x.no, 70) := by
  unfold stepG; rw [h]; rfl
theorem step_go {s : St} {x : Rw} (h : indOk x s.1 s.2 = true) (h2 : conts x.tx = true) : stepG s x = .ok (s.1 ++ [x], s.2) := by
  unfold stepG; rw [if_pos h, if_pos h2]
theorem step_end {s : St} {x : Rw} (h : indOk x s.1 s.2 = true) (h2 : conts x.tx = false) (h3 : within (joinR (s.1 ++ [x])) = true ∧ ¬ s.2.length = 2048) : stepG s x = .ok ([], s.2 ++ [joinR (s.1 ++ [x])]) := by
  unfold stepG; rw [if_pos h, if_neg (by rw [h2]; decide), if_pos h3]
theorem step_long {s : St} {x : Rw} (h : indOk x s.1 s.2 = true) (h2 : conts x.tx = false) (h3 : ¬ (within (joinR (s.1 ++ [x])) = true ∧ ¬ s.2.length = 2048)) : stepG s x = .error ((joinR (s.1 ++ [x])).no, 3) := by
  unfold stepG; rw [if_pos h, if_neg (by rw [h2]; decide), if_neg h3]
theorem run_snoc_ok {s s' s2 : St} {pre : List Item} {x : Item} (h : runG s pre = .ok s') (h2 : stepG s' (itL x) = .ok s2) : runG s (pre ++ [x]) = .ok s2 := by
  induction pre generalizing s with
  | nil => injection h with h; subst h; exact runG_ok h2
  | cons y pre ih =>
    rw [List.cons_append]
    cases hy : stepG s (itL y) with
    | error e => rw [runG_err hy] at h; cases h
    | ok s3 => rw [runG_ok hy] at h ⊢; exact ih h
theorem all_run {s s' : St} {pre suf : List Item} (h : runG s pre = .ok s') : allG s (pre ++ suf) = allG s' suf := by
  induction pre generalizing s with
  | nil => injection h with h; subst h; rfl
  | cons y pre ih =>
    rw [List.cons_append]
    cases hy : stepG s (itL y) with
    | error e => rw [runG_err hy] at h; cases h
    | ok s3 => rw [runG_ok hy] at h; rw [allG_ok hy]; exact ih h
theorem rowsOf_nil (before : Int) (k : Nat) : rowsOf before k [] = .ok [] := by unfold rowsOf; rfl
theorem rowsOf_bad {before : Int} {k n i : Nat} {m : Bs} {r : List Item} (h : i % 2 = 1 ∨ before + 1 < (i / 2 : Nat)) : rowsOf before k ((n, i, m) :: r) = .error (n, 70) := by
  unfold rowsOf; rw [if_pos h]
theorem rowsOf_err {before : Int} {k n i : Nat} {m : Bs} {r : List Item} {e : Nat × Int} (h : ¬ (i % 2 = 1 ∨ before + 1 < (i / 2 : Nat))) (hg : glue i n m r = .error e) : rowsOf before k ((n, i, m) :: r) = .error e := by
  unfold rowsOf; rw [if_neg h]
  split
  · rename_i e2 h2; rw [hg] at h2; injection h2 with h2; rw [h2]
  · rename_i h2; rw [hg] at h2; cases h2
theorem rowsOf_long {before : Int} {k n i : Nat} {m t : Bs} {r r' : List Item} (h : ¬ (i % 2 = 1 ∨ before + 1 < (i / 2 : Nat))) (hg : glue i n m r = .ok (t, r')) (hl : 32 < i / 2 ∨ 256 < t.length ∨ k = 2048) : rowsOf before k ((n, i, m) :: r) = .error (n, 3) := by
  unfold rowsOf; rw [if_neg h]
  split
  · rename_i h2; rw [hg] at h2; cases h2
  · rename_i h2; rw [hg] at h2; injection h2 with h2; injection h2 with h2 h3; subst h2 h3; rw [if_pos hl]
theorem rowsOf_ok {before : Int} {k n i : Nat} {m t : Bs} {r r' : List Item} (h : ¬ (i % 2 = 1 ∨ before + 1 < (i / 2 : Nat))) (hg : glue i n m r = .ok (t, r')) (hl : ¬ (32 < i / 2 ∨ 256 < t.length ∨ k = 2048)) :
    rowsOf before k ((n, i, m) :: r) = match rowsOf (i / 2 : Nat) (k + 1) r' with | .error e => .error e | .ok l => .ok (⟨n, (i / 2 : Nat), t⟩ :: l) := by
  conv => lhs; unfold rowsOf
  rw [if_neg h]
  split
  · rename_i h2; rw [hg] at h2; cases h2
  · rename_i h2; rw [hg] at h2; injection h2 with h2; injection h2 with h2 h3; subst h2 h3; rw [if_neg hl]; cases rowsOf (i / 2 : Nat) (k + 1) r' <;> rfl
/-- The rows, their numbers as Go has them. -/
def zE (l : List Rw) : Except (Nat × Int) (List Rw) → Except (Int × Int) (List Rw)
  | .error (n, e) => .error ((n : Int), e)
  | .ok rs => .ok (l ++ rs)
theorem join_snoc {op : List Rw} (h : op ≠ []) (x : Rw) : Lib.join (txs (op ++ [x])) [32] = Lib.join (txs op) [32] ++ 32 :: x.tx := by
  induction op with
  | nil => exact absurd rfl h
  | cons y op ih =>
    cases op with
    | nil => simp [txs, Lib.join, List.intercalate, List.intersperse]
    | cons z op =>
      have e : ∀ r : List Rw, Lib.join (txs (y :: z :: r)) [32] = y.tx ++ 32 :: Lib.join (txs (z :: r)) [32] := fun r => by
        simp [txs, Lib.join, List.intercalate, List.intersperse]
      rw [List.cons_append, List.cons_append, e, e, ← List.cons_append, ih (by simp)]
      simp
theorem getD_app0 {op : List Rw} (h : op ≠ []) (x : Rw) : (op ++ [x]).getD 0 z0 = op.getD 0 z0 := by
  cases op with
  | nil => exact absurd rfl h
  | cons y op => rfl
theorem getD_last (op : List Rw) (x : Rw) : (op ++ [x]).getD ((op ++ [x]).length - 1) z0 = x := by simp
def NE (its : List Item) : Prop := ∀ x ∈ its, x.2.2 ≠ []
theorem NE.tail {x : Item} {r : List Item} (h : NE (x :: r)) : NE r := fun y hy => h y (List.mem_cons_of_mem _ hy)
theorem items_ne (ls : List Bs) (i : Nat) : NE (itemsOf ls i) := by
  induction ls generalizing i with
  | nil => intro x hx; cases hx
  | cons l ls ih =>
    unfold itemsOf
    split
    · exact ih _
    · rename_i h
      intro x hx
      rcases List.mem_cons.1 hx with rfl | hx
      · intro e; exact h (by show (cutL l).2.isEmpty = true; rw [show (cutL l).2 = [] from e]; rfl)
      · exact ih _ x hx
theorem glue_go {ind a n i : Nat} {t m : Bs} {r : List Item} (h : conts t = true) (h2 : ¬ i < ind) : glue ind a t ((n, i, m) :: r) = glue ind n (t ++ 32 :: m) r := by
  conv => lhs; unfold glue
  rw [if_pos h, if_neg h2]
theorem glue_bad {ind a n i : Nat} {t m : Bs} {r : List Item} (h : conts t = true) (h2 : i < ind) : glue ind a t ((n, i, m) :: r) = .error (n, 70) := by
  unfold glue
  rw [if_pos h, if_pos h2]
theorem glue_end {ind a : Nat} {t : Bs} (h : conts t = true) : glue ind a t [] = .error (a, 5) := by
  unfold glue
  rw [if_pos h]
/-- What becomes of a logical line that is open. -/
def zG (op l : List Rw) (ind : Nat) : Except (Nat × Int) (Bs × List Item) → Except (Int × Int) (List Rw)
  | .error (n, e) => .error ((n : Int), e)
  | .ok (t, r') => if 32 < ind / 2 ∨ 256 < t.length ∨ l.length = 2048 then .error ((op.getD 0 z0).no, 3) else allG ([], l ++ [⟨(op.getD 0 z0).no, ((ind / 2 : Nat) : Int), t⟩]) r'
theorem allG_open {l : List Rw} {ind : Nat} : ∀ {its : List Item} {op : List Rw} {a : Nat}, op ≠ [] → NE its → (op.getD 0 z0).dp = (ind : Int) → (op.getD (op.length - 1) z0).no = (a : Int) → conts (Lib.join (txs op) [32]) = true →
    allG (op, l) its = zG op l ind (glue ind a (Lib.join (txs op) [32]) its) := by
  intro its
  induction its with
  | nil =>
    intro op a hop _ hi ha hc
    have hl : op.length ≠ 0 := fun e => hop (List.eq_nil_of_length_eq_zero e)
    rw [allG_nil, if_neg hl, ha, glue_end hc]
    rfl
  | cons x r ih =>
    intro op a hop hne hi ha hc
    obtain ⟨n, i, m⟩ := x
    have hm : m ≠ [] := hne (n, i, m) (List.mem_cons_self ..)
    have hl : op.length ≠ 0 := fun e => hop (List.eq_nil_of_length_eq_zero e)
    have hj : Lib.join (txs (op ++ [itL (n, i, m)])) [32] = Lib.join (txs op) [32] ++ 32 :: m := join_snoc hop _
    have hlast := getD_last op (itL (n, i, m))
    have h0 := getD_app0 hop (itL (n, i, m))
    have hcm : conts (Lib.join (txs op) [32] ++ 32 :: m) = conts m := by
      rw [show (32 :: m : Bs) = [32] ++ m from rfl, ← List.append_assoc, conts_app hm]
    have hio : indOk (itL (n, i, m)) op l = decide (ind ≤ i) := by
      unfold indOk
      rw [if_neg hl, hi]
      show decide ((ind : Int) ≤ (i : Int)) = _
      simp only [decide_eq_decide]
      omega
    by_cases h1 : i < ind
    · rw [allG_err (step_bad (s := (op, l)) (hio.trans (decide_eq_false (by omega)))), glue_bad hc h1]
      rfl
    · have hio' := hio.trans (decide_eq_true (show ind ≤ i by omega))
      rw [glue_go hc h1]
      by_cases h2 : conts m = true
      · rw [allG_ok (step_go (s := (op, l)) hio' h2)]
        have hi' := ih (op := op ++ [itL (n, i, m)]) (a := n) (by simp) hne.tail (by rw [h0, hi]) (by rw [hlast]; rfl) (by rw [hj, hcm, h2])
        rw [hj] at hi'
        refine hi'.trans ?_
        unfold zG
        rw [h0]
      · have h2' : conts m = false := by simpa using h2
        rw [glue_no (by rw [hcm, h2'])]
        have hw : joinR (op ++ [itL (n, i, m)]) = ⟨(op.getD 0 z0).no, ((ind / 2 : Nat) : Int), Lib.join (txs op) [32] ++ 32 :: m⟩ := by
          unfold joinR
          rw [h0, hj, hi]
          rfl
        by_cases h3 : 32 < ind / 2 ∨ 256 < (Lib.join (txs op) [32] ++ 32 :: m).length ∨ l.length = 2048
        · rw [allG_err (step_long (s := (op, l)) hio' h2' (by rw [hw]; unfold within; simp only [Bool.and_eq_true, decide_eq_true_eq]; omega))]
          unfold zG
          dsimp only
          rw [if_pos h3, hw]
        · rw [allG_ok (step_end (s := (op, l)) hio' h2' (by rw [hw]; unfold within; simp only [Bool.and_eq_true, decide_eq_true_eq]; omega))]
          unfold zG
          dsimp only
          rw [if_neg h3, hw]
theorem glue_mem {ind : Nat} : ∀ {r : List Item} {a : Nat} {t t' : Bs} {r' : List Item}, glue ind a t r = .ok (t', r') → ∀ y ∈ r', y ∈ r := by
  intro r
  induction r with
  | nil =>
    intro a t t' r' h
    unfold glue at h
    split at h
    · cases h
    · injection h with h
      injection h with _ h2
      rw [← h2]
      exact fun y hy => hy
  | cons x r ih =>
    intro a t t' r' h
    obtain ⟨n, i, m⟩ := x
    unfold glue at h
    split at h
    · split at h
      · cases h
      · exact fun y hy => List.mem_cons_of_mem _ (ih h y hy)
    · injection h with h
      injection h with _ h2
      rw [← h2]
      exact fun y hy => hy
theorem deep_snoc (l : List Rw) (x : Rw) : deep (l ++ [x]) = x.dp + 1 := by
  unfold deep
  rw [if_neg (by simp), getD_last]
theorem allG_rows : ∀ (N : Nat) (its : List Item) (l : List Rw), its.length ≤ N → NE its → allG ([], l) its = zE l (rowsOf (deep l - 1) l.length its) := by
  intro N
  induction N with
  | zero =>
    intro its l hN _
    obtain rfl : its = [] := List.eq_nil_of_length_eq_zero (by omega)
    rw [rowsOf_nil, allG_nil]
    simp [zE]
  | succ N ih =>
    intro its l hN hne
    cases its with
    | nil =>
      rw [rowsOf_nil, allG_nil]
      simp [zE]
    | cons x r =>
      obtain ⟨n, i, m⟩ := x
      have hm : m ≠ [] := hne (n, i, m) (List.mem_cons_self ..)
      simp only [List.length_cons] at hN
      have hrec : ∀ (t : Bs) (r' : List Item), r'.length ≤ N → NE r' → allG ([], l ++ [⟨(n : Int), ((i / 2 : Nat) : Int), t⟩]) r' = zE l (match rowsOf ((i / 2 : Nat) : Int) (l.length + 1) r' with
          | .error e => .error e
          | .ok rs => .ok (⟨(n : Int), ((i / 2 : Nat) : Int), t⟩ :: rs)) := by
        intro t r' h1 h2
        have := ih r' (l ++ [⟨(n : Int), ((i / 2 : Nat) : Int), t⟩]) h1 h2
        rw [deep_snoc, List.length_append, List.length_singleton] at this
        rw [show ((⟨(n : Int), ((i / 2 : Nat) : Int), t⟩ : Rw).dp + 1 - 1) = ((i / 2 : Nat) : Int) by show ((i / 2 : Nat) : Int) + 1 - 1 = _; omega] at this
        rw [this]
        cases rowsOf ((i / 2 : Nat) : Int) (l.length + 1) r' with
        | error p => rfl
        | ok rs => simp [zE]
      have hio : indOk (itL (n, i, m)) [] l = ((i : Int) % 2 == 0 && decide ((i : Int) / 2 ≤ deep l)) := rfl
      by_cases h1 : i % 2 = 1 ∨ deep l - 1 + 1 < ((i / 2 : Nat) : Int)
      · rw [rowsOf_bad h1, allG_err (step_bad (s := ([], l)) (hio.trans (by
          rw [Bool.and_eq_false_iff]
          rcases h1 with h1 | h1
          · left; simp; omega
          · right; simp; omega)))]
        rfl
      · have hio' : indOk (itL (n, i, m)) ([] : List Rw) l = true := hio.trans (by simp only [Bool.and_eq_true, beq_iff_eq, decide_eq_true_eq]; omega)
        by_cases h2 : conts m = true
        · rw [allG_ok (step_go (s := ([], l)) hio' h2)]
          have hj1 : Lib.join (txs ([] ++ [itL (n, i, m)])) [32] = m := Lib.join_one _ _
          have ho := allG_open (l := l) (ind := i) (its := r) (op := [] ++ [itL (n, i, m)]) (a := n) (by simp) hne.tail rfl rfl (by rw [hj1]; exact h2)
          rw [hj1] at ho
          refine ho.trans ?_
          cases hg : glue i n m r with
          | error e => obtain ⟨n', e'⟩ := e; rw [rowsOf_err h1 hg]; rfl
          | ok p =>
            obtain ⟨t, r'⟩ := p
            have hlen := glue_len hg
            unfold zG
            dsimp only
            by_cases h3 : 32 < i / 2 ∨ 256 < t.length ∨ l.length = 2048
            · rw [if_pos h3, rowsOf_long h1 hg h3]
              rfl
            · rw [if_neg h3, rowsOf_ok h1 hg h3]
              exact hrec t r' (by omega) (fun y hy => hne.tail y (glue_mem hg y hy))
        · have h2' : conts m = false := by simpa using h2
          have hg := glue_no (ind := i) (a := n) (r := r) h2'
          have hw : joinR ([] ++ [itL (n, i, m)]) = ⟨(n : Int), ((i / 2 : Nat) : Int), m⟩ := by
            show (⟨(n : Int), (i : Int) / 2, Lib.join [m] [32]⟩ : Rw) = _
            rw [Lib.join_one]
            rfl
          by_cases h3 : 32 < i / 2 ∨ 256 < m.length ∨ l.length = 2048
          · rw [allG_err (step_long (s := ([], l)) hio' h2' (by rw [hw]; unfold within; simp only [Bool.and_eq_true, decide_eq_true_eq]; omega)), rowsOf_long h1 hg h3, hw]
            rfl
          · rw [allG_ok (step_end (s := ([], l)) hio' h2' (by rw [hw]; unfold within; simp only [Bool.and_eq_true, decide_eq_true_eq]; omega)), rowsOf_ok h1 hg h3, hw]
            exact hrec m r (by omega) hne.tail
end Go.Proofs.YtkhmpmjonkmbeaaDoor.L7
