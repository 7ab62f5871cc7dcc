/- The rows of the source of valid rows are these rows. Plain Lean. -/
import Derived.Test.YtkhmpmjonkmbeaaDoorLay
set_option linter.unusedVariables false
set_option linter.unusedSimpArgs false
namespace Go.Proofs.YtkhmpmjonkmbeaaDoor.L7

theorem noDD_tail {c : UInt8} {r : Bs} (h : noDD (c :: r) = true) : noDD r = true := by
  cases r with
  | nil => rfl
  | cons d r => unfold noDD at h; simp only [Bool.and_eq_true] at h; exact h.2
theorem bare_self {l : Bs} (h : noDD l = true) : bare l = l := by
  induction l with
  | nil => rfl
  | cons c r ih =>
    cases r with
    | nil => rfl
    | cons d r =>
      have ht := noDD_tail h
      unfold noDD at h
      simp only [Bool.and_eq_true, Bool.not_eq_true', Bool.and_eq_false_iff, beq_eq_false_iff_ne] at h
      unfold bare
      rw [if_neg (by rcases h.1 with h1 | h1 <;> simp [h1]), ih ht]
theorem noDD_sp (n : Nat) {t : Bs} (h : noDD t = true) : noDD (List.replicate n 32 ++ t) = true := by
  induction n with
  | zero => exact h
  | succ n ih =>
    rw [List.replicate_succ, List.cons_append]
    cases hr : List.replicate n (32 : UInt8) ++ t with
    | nil => rfl
    | cons d r =>
      rw [hr] at ih
      unfold noDD
      rw [ih]
      rfl
theorem trimR_self {l : Bs} (h : (l.getLast? == some 32) = false) : trimR l = l := by
  unfold trimR
  have : l.reverse.dropWhile (· == 32) = l.reverse := by
    cases hr : l.reverse with
    | nil => rfl
    | cons c r =>
      have hl : l.getLast? = some c := by
        rw [List.getLast?_eq_head?_reverse, hr]
        rfl
      rw [hl] at h
      rw [List.dropWhile_cons_of_neg]
      simpa using h
  rw [this, List.reverse_reverse]
theorem last_sp (n : Nat) {t : Bs} (h : t ≠ []) : (List.replicate n (32 : UInt8) ++ t).getLast? = t.getLast? := by
  rw [List.getLast?_append]
  cases t with
  | nil => exact absurd rfl h
  | cons c r => simp [List.getLast?_cons]
theorem indL_sp (n : Nat) {t : Bs} (h : (t.head? == some 32) = false) : indL (List.replicate n 32 ++ t) = n := by
  unfold indL
  induction n with
  | zero =>
    cases t with
    | nil => rfl
    | cons c r =>
      rw [List.replicate_zero, List.nil_append, List.takeWhile_cons_of_neg]
      · rfl
      · simpa using h
  | succ n ih =>
    rw [List.replicate_succ, List.cons_append, List.takeWhile_cons_of_pos (by rfl)]
    simp only [List.length_cons]
    omega
structure Fine (t : Bs) : Prop where
  ne : t ≠ []
  le : t.length ≤ 256
  hd : (t.head? == some 32) = false
  la : (t.getLast? == some 32) = false
  co : conts t = false
  dd : noDD t = true
  pl : t.all plainB = true
theorem fine_parts {t : Bs} (h : fine t = true) : Fine t := by
  unfold fine at h
  simp only [Bool.and_eq_true, Bool.not_eq_true', decide_eq_true_eq] at h
  obtain ⟨⟨⟨⟨⟨⟨h1, h2⟩, h3⟩, h4⟩, h5⟩, h6⟩, h7⟩ := h
  exact ⟨(fun e => by subst e; cases h1), h2, h3, h4, h5, h6, h7⟩
theorem fine_back {t : Bs} (h : Fine t) : fine t = true := by
  unfold fine
  have : t.isEmpty = false := by cases t with | nil => exact absurd rfl h.ne | cons c r => rfl
  rw [this, decide_eq_true h.le, h.hd, h.la, h.co, h.dd, h.pl]
  rfl
theorem cut_fine {t : Bs} (h : Fine t) (n : Nat) : cutL (List.replicate n 32 ++ t) = (n, t) := by
  unfold cutL
  rw [bare_self (noDD_sp n h.dd), trimR_self (by rw [last_sp n h.ne]; exact h.la), indL_sp n h.hd]
  simp
/-! ### The lines of a source -/
def No10 (l : Bs) : Prop := ∀ c ∈ l, c ≠ 10
theorem lns_hit {p q : Bs} (h : No10 p) : lnsOf (p ++ 10 :: q) = p :: lnsOf q := by
  induction p with
  | nil => simp [lnsOf]
  | cons c p ih =>
    rw [List.cons_append]
    show (if c = 10 then _ else _) = _
    rw [if_neg (h c (List.mem_cons_self ..)), ih (fun d hd => h d (List.mem_cons_of_mem _ hd))]
theorem lns_src {l : List Bs} (h : ∀ p ∈ l, No10 p) : lnsOf (l.flatMap fun p => p ++ [10]) = l ++ [[]] := by
  induction l with
  | nil => rfl
  | cons p l ih =>
    rw [List.flatMap_cons, List.append_assoc, List.singleton_append, lns_hit (h p (List.mem_cons_self ..)), ih (fun q hq => h q (List.mem_cons_of_mem _ hq))]
    rfl
theorem plain_no {t : Bs} (h : t.all plainB = true) : No10 t := by
  intro c hc e
  subst e
  have := List.all_eq_true.1 h _ hc
  cases this
theorem sp_no (n : Nat) {t : Bs} (h : No10 t) : No10 (List.replicate n 32 ++ t) := by
  intro c hc
  rcases List.mem_append.1 hc with hc | hc
  · rw [(List.mem_replicate.1 hc).2]; decide
  · exact h c hc
theorem sp_plain (n : Nat) {t : Bs} (h : t.all plainB = true) : (List.replicate n (32 : UInt8) ++ t).all plainB = true := by
  rw [List.all_append, h, Bool.and_true, List.all_eq_true]
  intro c hc
  rw [(List.mem_replicate.1 hc).2]
  rfl
/-! ### Rows -/
/-- The rows, numbered from i on. -/
def renum : List Rw → Nat → List Rw
  | [], _ => []
  | x :: r, i => ⟨i, x.dp, x.tx⟩ :: renum r (i + 1)
theorem ok_cons {no dp : Int} {x : Rw} {r : List Rw} (h : okRows no dp (x :: r) = true) : (no < x.no ∧ x.no ≤ 65536 ∧ 0 ≤ x.dp ∧ x.dp ≤ dp + 1 ∧ x.dp ≤ 32 ∧ Fine x.tx) ∧ okRows x.no x.dp r = true := by
  unfold okRows at h
  simp only [Bool.and_eq_true, decide_eq_true_eq] at h
  obtain ⟨⟨⟨⟨⟨⟨h1, h2⟩, h3⟩, h4⟩, h5⟩, h6⟩, h7⟩ := h
  exact ⟨⟨h1, h2, h3, h4, h5, fine_parts h6⟩, h7⟩
theorem ok_fine {no dp : Int} {l : List Rw} (h : okRows no dp l = true) : ∀ x ∈ l, Fine x.tx := by
  induction l generalizing no dp with
  | nil => intro x hx; cases hx
  | cons y l ih =>
    obtain ⟨h1, h2⟩ := ok_cons h
    intro x hx
    rcases List.mem_cons.1 hx with rfl | hx
    · exact h1.2.2.2.2.2
    · exact ih h2 x hx
theorem items_src {l : List Rw} (h : ∀ x ∈ l, Fine x.tx) (i : Nat) : itemsOf (l.map lineOf7 ++ [[]]) i = (renum l i).map fun x => (x.no.toNat, 2 * x.dp.toNat, x.tx) := by
  induction l generalizing i with
  | nil => rfl
  | cons x l ih =>
    have hx := h x (List.mem_cons_self ..)
    rw [List.map_cons, List.cons_append]
    have hc : cutL (lineOf7 x) = (2 * x.dp.toNat, x.tx) := cut_fine hx _
    unfold itemsOf
    rw [hc]
    have : x.tx.isEmpty = false := by cases ht : x.tx with | nil => exact absurd ht hx.ne | cons c r => rfl
    dsimp only
    rw [this, if_neg (by decide), ih (fun y hy => h y (List.mem_cons_of_mem _ hy))]
    rfl
theorem glue_no {ind a : Nat} {t : Bs} {r : List Item} (h : conts t = false) : glue ind a t r = .ok (t, r) := by
  cases r with
  | nil => unfold glue; rw [h]; rfl
  | cons x r => obtain ⟨n, i, m⟩ := x; unfold glue; rw [h]; rfl
theorem rows_src {l : List Rw} : ∀ {no dp : Int} {k i : Nat}, okRows no dp l = true → k + l.length ≤ 2048 →
    rowsOf dp k ((renum l i).map fun x => (x.no.toNat, 2 * x.dp.toNat, x.tx)) = .ok (renum l i) := by
  induction l with
  | nil => intro no dp k i _ _; unfold renum rowsOf; rfl
  | cons x l ih =>
    intro no dp k i h hk
    obtain ⟨⟨_, _, h3, h4, h5, h6⟩, h7⟩ := ok_cons h
    have e1 : 2 * x.dp.toNat / 2 = x.dp.toNat := by omega
    have e2 : ((x.dp.toNat : Nat) : Int) = x.dp := Int.toNat_of_nonneg h3
    have e3 : (((i : Nat) : Int)).toNat = i := Int.toNat_natCast i
    simp only [List.length_cons] at hk
    have hi := ih (k := k + 1) (i := i + 1) h7 (by omega)
    unfold renum
    rw [List.map_cons]
    unfold rowsOf
    dsimp only
    rw [e1, e2, e3, if_neg (by omega)]
    split
    · rename_i e he
      rw [glue_no h6.co] at he
      cases he
    · rename_i t r' he
      rw [glue_no h6.co] at he
      injection he with he
      injection he with ht hr
      subst ht hr
      rw [if_neg (by have := h6.le; omega), hi]
theorem src_lines (l : List Rw) : srcOf l = (l.map lineOf7).flatMap fun p => p ++ [10] := by
  unfold srcOf
  rw [List.flatMap_map]
theorem rows_back {l : List Rw} (h : may l = true) (hs : (srcOf l).length ≤ 65536) : rows (srcOf l) = (renum l 1, 0, 0) := by
  unfold may at h
  simp only [Bool.and_eq_true, decide_eq_true_eq] at h
  have hf := ok_fine h.1.2
  have hl : lnsOf (srcOf l) = l.map lineOf7 ++ [[]] := by
    rw [src_lines]
    refine lns_src fun p hp => ?_
    obtain ⟨x, hx, rfl⟩ := List.mem_map.1 hp
    exact sp_no _ (plain_no (hf x hx).pl)
  have hb : badLine (lnsOf (srcOf l)) = none := by
    unfold badLine
    rw [List.findIdx?_eq_none_iff, hl]
    intro p hp
    rcases List.mem_append.1 hp with hp | hp
    · obtain ⟨x, hx, rfl⟩ := List.mem_map.1 hp
      unfold lineOf7
      rw [sp_plain _ (hf x hx).pl]
      rfl
    · rw [List.mem_singleton.1 hp]; rfl
  unfold rows
  rw [if_neg (by omega), hb, hl, items_src hf, rows_src h.1.2 (by omega)]
end Go.Proofs.YtkhmpmjonkmbeaaDoor.L7
