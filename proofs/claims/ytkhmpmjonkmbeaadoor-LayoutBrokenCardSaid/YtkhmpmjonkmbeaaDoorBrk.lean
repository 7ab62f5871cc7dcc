/- A line that is broken behind a byte that makes lines continue is read as the same row. Plain Lean. -/
import Derived.Test.YtkhmpmjonkmbeaaDoorAga
import Derived.Test.YtkhmpmjonkmbeaaDoorBlk
set_option linter.unusedVariables false
set_option linter.unusedSimpArgs false
namespace Go.Proofs.YtkhmpmjonkmbeaaDoor.L7

theorem cut_self {t : Bs} (h : Cont t) (n : Nat) : cutL (List.replicate n 32 ++ t) = (n, t) := by
  unfold cutL
  rw [bare_self (noDD_sp n h.dd), trimR_self (by rw [last_sp n h.ne]; exact h.la), indL_sp n h.hd]
  simp
theorem fine_cont {t : Bs} (h : Fine t) : Cont t := ⟨h.ne, h.hd, h.la, h.dd, h.pl⟩
theorem items_cons {t : Bs} (h : Cont t) (n : Nat) (r : List Bs) (i : Nat) : itemsOf ((List.replicate n 32 ++ t) :: r) i = (i, n, t) :: itemsOf r (i + 1) := by
  conv => lhs; unfold itemsOf
  rw [cut_self h]
  have : t.isEmpty = false := by cases ht : t with | nil => exact absurd ht h.ne | cons c r => rfl
  dsimp only
  rw [this, if_neg (by decide)]
/-- One row more in front. -/
theorem row_glue {x : Rw} {dp : Int} {k i : Nat} {t : Bs} {r its : List Item} {l' : List Rw} (h3 : 0 ≤ x.dp) (h4 : x.dp ≤ dp + 1) (h5 : x.dp ≤ 32) (h6 : Fine x.tx) (hk : k < 2048)
    (hg : glue (2 * x.dp.toNat) i t r = .ok (x.tx, its)) (hi : rowsOf x.dp (k + 1) its = .ok l') :
    rowsOf dp k ((i, 2 * x.dp.toNat, t) :: r) = .ok (⟨i, x.dp, x.tx⟩ :: l') := by
  have e1 : 2 * x.dp.toNat / 2 = x.dp.toNat := by omega
  have e2 : ((x.dp.toNat : Nat) : Int) = x.dp := Int.toNat_of_nonneg h3
  unfold rowsOf
  rw [e1, e2, if_neg (by omega)]
  split
  · rename_i e he
    rw [hg] at he
    cases he
  · rename_i t r' he
    rw [hg] at he
    injection he with he
    injection he with ht hr
    subst ht hr
    rw [if_neg (by have := h6.le; omega), hi]
/-- A text that is broken at a space. -/
structure Broken (t t1 t2 : Bs) : Prop where
  eq : t = t1 ++ 32 :: t2
  ne : t2 ≠ []
  hd : (t2.head? == some 32) = false
  co : conts t1 = true
theorem Broken.one {t t1 t2 : Bs} (h : Broken t t1 t2) (hf : Fine t) : Cont t1 ∧ Cont t2 := by
  have he := h.eq
  subst he
  have hne : t1 ≠ [] := by intro e; have := h.co; rw [e] at this; cases this
  have hd := noDD_app hf.dd
  have hp := hf.pl
  rw [List.all_append, Bool.and_eq_true, List.all_cons, Bool.and_eq_true] at hp
  refine ⟨⟨hne, ?_, ?_, hd.1, hp.1⟩, ⟨h.ne, h.hd, ?_, noDD_tail hd.2, hp.2.2⟩⟩
  · have := hf.hd
    cases t1 with
    | nil => exact absurd rfl hne
    | cons c r => exact this
  · have := h.co
    unfold conts at this
    cases hl : t1.getLast? with
    | none => rfl
    | some c =>
      rw [hl] at this
      dsimp only at this
      cases hc : (some c == some (32 : UInt8)) with
      | false => rfl
      | true =>
        have e : c = 32 := by simpa using hc
        subst e
        cases this
  · have := hf.la
    rw [List.getLast?_append] at this
    have e : (32 :: t2).getLast? = t2.getLast? := by
      cases ht : t2 with
      | nil => exact absurd ht h.ne
      | cons c r => rfl
    rw [e] at this
    cases hl : t2.getLast? with
    | none => rfl
    | some c => rw [hl] at this; exact this
/-- The lines of a source in which row k is broken. -/
def brkL (d : Nat) (t1 t2 : Bs) : Nat → List Rw → List Bs
  | _, [] => []
  | 0, x :: r => (List.replicate (2 * x.dp.toNat) 32 ++ t1) :: (List.replicate (2 * x.dp.toNat + d) 32 ++ t2) :: r.map lineOf7
  | k + 1, x :: r => lineOf7 x :: brkL d t1 t2 k r
/-- The rows that are read of it. -/
def brkR : Nat → List Rw → Nat → List Rw
  | _, [], _ => []
  | 0, x :: r, i => ⟨i, x.dp, x.tx⟩ :: renum r (i + 2)
  | k + 1, x :: r, i => ⟨i, x.dp, x.tx⟩ :: brkR k r (i + 1)
theorem brk_rows {d : Nat} {t1 t2 : Bs} {l : List Rw} : ∀ {no dp : Int} {j k i : Nat}, okRows no dp l = true → k + l.length ≤ 2048 → (∀ x, l[j]? = some x → Broken x.tx t1 t2) →
    rowsOf dp k (itemsOf (brkL d t1 t2 j l ++ [[]]) i) = .ok (brkR j l i) := by
  induction l with
  | nil =>
    intro no dp j k i _ _ _
    have e1 : brkL d t1 t2 j [] = [] := by cases j <;> rfl
    have e2 : brkR j [] i = [] := by cases j <;> rfl
    rw [e1, e2, List.nil_append]
    have : itemsOf [[]] i = [] := rfl
    rw [this]
    unfold rowsOf
    rfl
  | cons x l ih =>
    intro no dp j k i h hk hx
    obtain ⟨⟨_, _, h3, h4, h5, h6⟩, h7⟩ := ok_cons h
    simp only [List.length_cons] at hk
    cases j with
    | zero =>
      have hb := hx x rfl
      obtain ⟨c1, c2⟩ := hb.one h6
      show rowsOf dp k (itemsOf ((List.replicate (2 * x.dp.toNat) 32 ++ t1) :: (List.replicate (2 * x.dp.toNat + d) 32 ++ t2) :: (l.map lineOf7 ++ [[]])) i) = .ok (⟨i, x.dp, x.tx⟩ :: renum l (i + 2))
      rw [items_cons c1, items_cons c2, items_src (ok_fine h7)]
      refine row_glue h3 h4 h5 h6 (by omega) ?_ (rows_src h7 (by omega))
      unfold glue
      rw [if_pos hb.co, if_neg (by omega), ← hb.eq]
      exact glue_no h6.co
    | succ j =>
      show rowsOf dp k (itemsOf (lineOf7 x :: (brkL d t1 t2 j l ++ [[]])) i) = .ok (⟨i, x.dp, x.tx⟩ :: brkR j l (i + 1))
      unfold lineOf7
      rw [items_cons (fine_cont h6)]
      exact row_glue h3 h4 h5 h6 (by omega) (glue_no h6.co) (ih h7 (by omega) (fun y hy => hx y (by rw [List.getElem?_cons_succ]; exact hy)))
/-- All its lines are plain. -/
theorem brk_plain {d : Nat} {t1 t2 : Bs} {l : List Rw} : ∀ {no dp : Int} {j : Nat}, okRows no dp l = true → (∀ x, l[j]? = some x → Broken x.tx t1 t2) → ∀ p ∈ brkL d t1 t2 j l, p.all plainB = true := by
  induction l with
  | nil =>
    intro no dp j _ _ p hp
    have e1 : brkL d t1 t2 j [] = [] := by cases j <;> rfl
    rw [e1] at hp
    cases hp
  | cons x l ih =>
    intro no dp j h hx p hp
    obtain ⟨⟨_, _, h3, h4, h5, h6⟩, h7⟩ := ok_cons h
    cases j with
    | zero =>
      obtain ⟨c1, c2⟩ := (hx x rfl).one h6
      rcases List.mem_cons.1 hp with rfl | hp
      · exact sp_plain _ c1.pl
      · rcases List.mem_cons.1 hp with rfl | hp
        · exact sp_plain _ c2.pl
        · obtain ⟨y, hy, rfl⟩ := List.mem_map.1 hp
          exact sp_plain _ (ok_fine h7 y hy).pl
    | succ j =>
      rcases List.mem_cons.1 hp with rfl | hp
      · exact sp_plain _ h6.pl
      · exact ih h7 (fun y hy => hx y (by rw [List.getElem?_cons_succ]; exact hy)) p hp
theorem broken_core {d : Nat} {t1 t2 : Bs} {l : List Rw} {j : Nat} (h : may l = true) (hx : ∀ x, l[j]? = some x → Broken x.tx t1 t2) :
    core (brkL d t1 t2 j l ++ [[]]) = (brkR j l 1, 0, 0) := by
  unfold may at h
  simp only [Bool.and_eq_true, decide_eq_true_eq] at h
  have hb : badLine (brkL d t1 t2 j l ++ [[]]) = none := by
    unfold badLine
    rw [List.findIdx?_eq_none_iff]
    intro p hp
    rcases List.mem_append.1 hp with hp | hp
    · rw [brk_plain h.1.2 hx p hp]; rfl
    · rw [List.mem_singleton.1 hp]; rfl
  unfold core
  rw [hb, brk_rows h.1.2 (by omega) hx]
/-- What is read is alike, and row j begins where it began. -/
theorem brk_alike : ∀ (j : Nat) (l : List Rw) (i : Nat), (brkR j l i).map (fun x => (x.dp, x.tx)) = l.map (fun x => (x.dp, x.tx)) ∧ ∀ x, (brkR j l i)[j]? = some x → x.no = ((i + j : Nat) : Int) := by
  have hr : ∀ (l : List Rw) (i : Nat), (renum l i).map (fun x => (x.dp, x.tx)) = l.map (fun x => (x.dp, x.tx)) := by
    intro l
    induction l with
    | nil => exact fun _ => rfl
    | cons x l ih => intro i; unfold renum; rw [List.map_cons, List.map_cons, ih]
  intro j l
  induction l generalizing j with
  | nil =>
    intro i
    have e2 : brkR j [] i = [] := by cases j <;> rfl
    rw [e2]
    exact ⟨rfl, fun x hx => by cases hx⟩
  | cons x l ih =>
    intro i
    cases j with
    | zero =>
      refine ⟨?_, fun y hy => ?_⟩
      · show _ :: (renum l (i + 2)).map _ = _
        rw [hr, List.map_cons]
      · injection hy with hy
        rw [← hy]
        rfl
    | succ j =>
      obtain ⟨h1, h2⟩ := ih j (i + 1)
      refine ⟨?_, fun y hy => ?_⟩
      · show _ :: (brkR j l (i + 1)).map _ = _
        rw [h1, List.map_cons]
      · rw [h2 y (by unfold brkR at hy; rw [List.getElem?_cons_succ] at hy; exact hy)]
        omega
end Go.Proofs.YtkhmpmjonkmbeaaDoor.L7
