/- The rows of a source text: what they are. Plain Lean. -/
set_option linter.unusedVariables false
set_option linter.unusedSimpArgs false
namespace Go.Proofs.YtkhmpmjonkmbeaaDoor.L7

abbrev Bs := List UInt8
/-- A row: the number of its first line, its depth, its text. -/
structure Rw where
  no : Int
  dp : Int
  tx : Bs
deriving DecidableEq

/-! ### Lines, contents -/
/-- The lines of a text, the last one without its line feed. -/
def lnsOf : Bs → List Bs
  | [] => [[]]
  | c :: cs => if c = 10 then [] :: lnsOf cs else match lnsOf cs with
    | [] => [[c]]
    | h :: t => (c :: h) :: t
/-- A line without its comment. -/
def bare : Bs → Bs
  | [] => []
  | [c] => [c]
  | c :: d :: r => if c = 45 ∧ d = 45 then [] else c :: bare (d :: r)
def trimR (l : Bs) : Bs := (l.reverse.dropWhile (· == 32)).reverse
def indL (l : Bs) : Nat := (l.takeWhile (· == 32)).length
/-- The indentation and the content of a line. -/
def cutL (l : Bs) : Nat × Bs := (indL (trimR (bare l)), (trimR (bare l)).drop (indL (trimR (bare l))))
def isC (c : UInt8) : Bool := c = 44 || c = 59 || c = 40 || c = 91 || c = 43 || c = 45 || c = 42 || c = 47 || c = 92 || c = 61 || c = 60 || c = 62 || c = 126 || c = 38
def conts (l : Bs) : Bool := match l.getLast? with | some c => isC c | none => false
def plainB (c : UInt8) : Bool := decide (32 ≤ c.toNat) && decide (c.toNat ≤ 126)
/-- The lines with content: number, indentation, content. -/
abbrev Item := Nat × Nat × Bs
def itemsOf (ls : List Bs) (i : Nat) : List Item := match ls with
  | [] => []
  | l :: r => if (cutL l).2.isEmpty then itemsOf r (i + 1) else (i, (cutL l).1, (cutL l).2) :: itemsOf r (i + 1)
/-- A logical line: its text and what is left, or the error and its line. -/
def glue (ind at_ : Nat) (t : Bs) : List Item → Except (Nat × Int) (Bs × List Item)
  | [] => if conts t then .error (at_, 5) else .ok (t, [])
  | (n, i, m) :: r => if conts t then (if i < ind then .error (n, 70) else glue ind n (t ++ 32 :: m) r) else .ok (t, (n, i, m) :: r)
theorem glue_len {ind : Nat} : ∀ {r : List Item} {a : Nat} {t t' : Bs} {r' : List Item}, glue ind a t r = .ok (t', r') → r'.length ≤ r.length := by
  intro r
  induction r with
  | nil =>
    intro a t t' r' h
    unfold glue at h
    split at h
    · cases h
    · injection h with h
      injection h with _ h2
      rw [← h2]
      exact Nat.le_refl _
  | cons x r ih =>
    intro a t t' r' h
    obtain ⟨n, i, m⟩ := x
    unfold glue at h
    split at h
    · split at h
      · cases h
      · have := ih h
        simp only [List.length_cons]
        omega
    · injection h with h
      injection h with _ h2
      rw [← h2]
      exact Nat.le_refl _
/-- The rows of items: behind k rows, the last of which has this depth. -/
def rowsOf (before : Int) (k : Nat) (its : List Item) : Except (Nat × Int) (List Rw) :=
  match its with
  | [] => .ok []
  | (n, i, m) :: r =>
    if i % 2 = 1 ∨ before + 1 < (i / 2 : Nat) then .error (n, 70)
    else match hg : glue i n m r with
      | .error e => .error e
      | .ok (t, r') =>
        if 32 < i / 2 ∨ 256 < t.length ∨ k = 2048 then .error (n, 3)
        else match rowsOf (i / 2 : Nat) (k + 1) r' with
          | .error e => .error e
          | .ok l => .ok (⟨n, (i / 2 : Nat), t⟩ :: l)
termination_by its.length
decreasing_by
  have := glue_len hg
  simp only [List.length_cons]
  omega
/-- The first line with a byte that may not be there. -/
def badLine (ls : List Bs) : Option Nat := ls.findIdx? fun l => !l.all plainB
/-- What Rows answers: rows, line, error. -/
def rows (s : Bs) : List Rw × Int × Int :=
  if 65536 < s.length then ([], 0, 3)
  else match badLine (lnsOf s) with
    | some k => ([], (k : Int) + 1, 5)
    | none => match rowsOf (-1) 0 (itemsOf (lnsOf s) 1) with
      | .error (n, e) => ([], n, e)
      | .ok l => (l, 0, 0)
/-! ### Valid rows, and their source -/
def noDD : Bs → Bool
  | [] => true
  | [_] => true
  | c :: d :: r => !(c == 45 && d == 45) && noDD (d :: r)
def fine (t : Bs) : Bool := !t.isEmpty && decide (t.length ≤ 256) && !(t.head? == some 32) && !(t.getLast? == some 32) && !conts t && noDD t && t.all plainB
/-- Each row against the one before it. -/
def okRows (no dp : Int) : List Rw → Bool
  | [] => true
  | x :: r => decide (no < x.no) && decide (x.no ≤ 65536) && decide (0 ≤ x.dp) && decide (x.dp ≤ dp + 1) && decide (x.dp ≤ 32) && fine x.tx && okRows x.no x.dp r
def size (l : List Rw) : Nat := (l.map fun x => 2 * x.dp.toNat + x.tx.length + 1).sum
def may (l : List Rw) : Bool := decide (l.length ≤ 2048) && okRows 0 (-1) l && decide (size l ≤ 65537)
def lineOf7 (x : Rw) : Bs := List.replicate (2 * x.dp.toNat) 32 ++ x.tx
def srcOf (l : List Rw) : Bs := l.flatMap fun x => lineOf7 x ++ [10]
def source (l : List Rw) : Bs × Int := if may l = true then (if (srcOf l).length ≤ 65536 then (srcOf l, 0) else ([], 3)) else ([], 2)
end Go.Proofs.YtkhmpmjonkmbeaaDoor.L7
