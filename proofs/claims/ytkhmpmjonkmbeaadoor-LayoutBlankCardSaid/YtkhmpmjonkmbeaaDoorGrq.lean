/- What the program keeps while it groups lines into rows. -/
import Derived.Test.YtkhmpmjonkmbeaaDoorRnd
import Derived.Test.YtkhmpmjonkmbeaaDoorLnf
import Derived.Test.YtkhmpmjonkmbeaaDoorJnd
import Derived.Test.YtkhmpmjonkmbeaaDoorRfd
set_option linter.unusedVariables false
set_option linter.unusedSimpArgs false
namespace Go.Proofs.YtkhmpmjonkmbeaaDoor
open Go Go.RowKit Go.Shelf L7

/-! ### The machine's state -/
def Pg (pre : List L7.Item) (op l : List Rw) : Prop :=
  runG ([], []) pre = .ok (op, l) ∧ BdL op ∧ (∀ y ∈ l, 0 ≤ y.dp ∧ y.dp ≤ 32 ∧ y.tx.length ≤ 256) ∧ l.length ≤ 2048 ∧ op.length ≤ pre.length
theorem pg_nil : Pg [] [] [] := ⟨rfl, (fun _ h => (by cases h)), (fun _ h => (by cases h)), by simp, by simp⟩
def BdI (x : L7.Item) : Prop := x.1 ≤ 100000 ∧ x.2.1 ≤ 100000 ∧ x.2.2.length ≤ 100000
theorem bdl_one {x : L7.Item} (h : BdI x) : BdL [itL x] := fun y hy => by
  rw [List.mem_singleton.1 hy]
  obtain ⟨h1, h2, h3⟩ := h
  refine ⟨?_, ?_, ?_, ?_, h3⟩ <;> (unfold itL; dsimp only; omega)
theorem items_bd {ls : List Bs} {q : Nat} (h : ∀ l ∈ ls, l.length ≤ q) : ∀ (i : Nat) (x : L7.Item), x ∈ itemsOf ls i → x.1 ≤ i + ls.length ∧ x.2.1 ≤ q ∧ x.2.2.length ≤ q := by
  induction ls with
  | nil => intro i x hx; cases hx
  | cons l ls ih =>
    intro i x hx
    have h1 := h l (List.mem_cons_self ..)
    have h2 := ih (fun l hl => h l (List.mem_cons_of_mem _ hl)) (i + 1)
    rw [items_eq] at hx
    simp only [List.length_cons]
    split at hx
    · have := h2 x hx; omega
    · rcases List.mem_cons.1 hx with rfl | hx
      · have := cut_le l; dsimp only; omega
      · have := h2 x hx; omega
theorem items_len (ls : List Bs) (i : Nat) : (itemsOf ls i).length ≤ ls.length := by
  induction ls generalizing i with
  | nil => simp [itemsOf]
  | cons l ls ih =>
    rw [items_eq]
    have := ih (i + 1)
    simp only [List.length_cons]
    split
    · omega
    · simp only [List.length_cons]; omega
theorem src_item {s : Bs} (hs : s.length ≤ 65536) {pre : List L7.Item} {x : L7.Item} (h : pre ++ [x] <+: itemsOf (lnsOf s) 1) : BdI x ∧ pre.length + 1 ≤ 65537 := by
  have hm : x ∈ itemsOf (lnsOf s) 1 := h.subset (by simp)
  have hl : ∀ l ∈ lnsOf s, l.length ≤ s.length := fun l hl => by
    obtain ⟨i, hi, rfl⟩ := List.getElem_of_mem hl
    have := lns_le s i
    simpa [hi] using this
  have h1 := items_bd hl 1 x hm
  have h2 := (lns_len s).2
  have h3 := h.length_le
  have h4 := items_len (lnsOf s) 1
  rw [List.length_append, List.length_singleton] at h3
  unfold BdI
  omega
theorem pg_go {pre : List L7.Item} {op l : List Rw} {x : L7.Item} (h : Pg pre op l) (hx : BdI x) (h1 : indOk (itL x) op l = true) (h2 : conts x.2.2 = true) : Pg (pre ++ [x]) (op ++ [itL x]) l :=
  ⟨run_snoc_ok h.1 (step_go (s := (op, l)) h1 h2), h.2.1.app (bdl_one hx), h.2.2.1, h.2.2.2.1, by have := h.2.2.2.2; simp only [List.length_append, List.length_singleton]; omega⟩
theorem join_dp {op : List Rw} {x : L7.Item} (h : BdL op) (hx : BdI x) : 0 ≤ (joinR (op ++ [itL x])).dp := by
  have := (h.app (bdl_one hx)) ((op ++ [itL x]).getD 0 r0) (getD_mem (by simp))
  show 0 ≤ ((op ++ [itL x]).getD 0 r0).dp / 2
  omega
theorem within_le {x : Rw} (h : within x = true) : x.dp ≤ 32 ∧ x.tx.length ≤ 256 := by
  unfold within at h
  simp only [Bool.and_eq_true, decide_eq_true_eq] at h
  exact h
theorem pg_end {pre : List L7.Item} {op l : List Rw} {x : L7.Item} (h : Pg pre op l) (hx : BdI x) (h1 : indOk (itL x) op l = true) (h2 : conts x.2.2 = false) (h3 : within (joinR (op ++ [itL x])) = true) (h4 : ¬ l.length = 2048) :
    Pg (pre ++ [x]) [] (l ++ [joinR (op ++ [itL x])]) := by
  refine ⟨run_snoc_ok h.1 (L7.step_end (s := (op, l)) h1 h2 ⟨h3, h4⟩), (fun _ h => (by cases h)), fun y hy => ?_, ?_, by simp⟩
  · rcases List.mem_append.1 hy with hy | hy
    · exact h.2.2.1 y hy
    · rw [List.mem_singleton.1 hy]
      exact ⟨join_dp h.2.1 hx, within_le h3⟩
  · have := h.2.2.2.1
    simp only [List.length_append, List.length_singleton]
    omega
theorem okx_join {op : List Rw} (h : BdL op) (hm : op.length ≤ 100000) : OKx (joinR op) := by
  have := join_le (ls := txs op) (q := 100000) (fun l hl => by
    unfold txs at hl
    obtain ⟨x, hx, rfl⟩ := List.mem_map.1 hl
    exact (h x hx).2.2.2.2)
  have h3 : (txs op).length = op.length := by unfold txs; rw [List.length_map]
  rw [h3] at this
  have : op.length * (100000 + 1) ≤ 100000 * (100000 + 1) := Nat.mul_le_mul_right _ hm
  show (Lib.join (txs op) [32]).length ≤ maxLen
  unfold maxLen
  omega
/-! ### What it comes to -/
def ansA : Except (Int × Int) (List Rw) → List Rw × Int × Int
  | .error (n, e) => ([], n, e)
  | .ok l => (l, 0, 0)
theorem rows_all {s : Bs} (h : s.length ≤ 65536) (hb : badLine (lnsOf s) = none) {R : Except (Int × Int) (List Rw)} (hR : allG ([], []) (itemsOf (lnsOf s) 1) = R) : rows s = ansA R := by
  have hg := allG_rows _ (itemsOf (lnsOf s) 1) [] (Nat.le_refl _) (items_ne _ _)
  rw [hR] at hg
  rw [rows_of h hb (R := rowsOf (-1) 0 (itemsOf (lnsOf s) 1)) rfl, hg]
  change _ = ansA (zE [] (rowsOf (-1) 0 (itemsOf (lnsOf s) 1)))
  cases rowsOf (-1) 0 (itemsOf (lnsOf s) 1) with
  | error p => obtain ⟨n, e⟩ := p; rfl
  | ok l => rfl
theorem grp_done {s : Bs} (h : s.length ≤ 65536) (hb : badLine (lnsOf s) = none) {op l : List Rw} (hp : Pg (itemsOf (lnsOf s) 1) op l) : rows s = if op.length = 0 then (l, 0, 0) else ([], (op.getD (op.length - 1) r0).no, 5) := by
  have e := all_run (suf := []) hp.1
  rw [List.append_nil, allG_nil] at e
  rw [rows_all h hb e]
  dsimp only
  split <;> rfl
theorem grp_stop {s : Bs} (h : s.length ≤ 65536) (hb : badLine (lnsOf s) = none) {op l : List Rw} {ini : List L7.Item} {x : L7.Item} {n e : Int} (hp : runG ([], []) ini = .ok (op, l)) (hx : L7.stepG (op, l) (itL x) = .error (n, e)) (hpre : ini ++ [x] <+: itemsOf (lnsOf s) 1) : rows s = ([], n, e) := by
  obtain ⟨suf, hsuf⟩ := hpre
  have e1 : allG ([], []) (itemsOf (lnsOf s) 1) = .error (n, e) := by
    rw [← hsuf, List.append_assoc, all_run hp]
    exact allG_err hx
  rw [rows_all h hb e1]
  rfl
/-! ### What the worlds keep -/
/-- Two rows of different types lie apart. -/
theorem own_apart {X : World} {b b' e e' n n' s s' : Nat} {v v' : Value} {xs xs' : List Value} (h : X.ownsRow b e s v n xs) (k : X.ownsRow b' e' s' v' n' xs') (hne : e ≠ e') : v.ownBlock = none ∨ v.ownBlock ≠ v'.ownBlock := by
  rcases h.2 with ⟨rfl, _⟩ | ⟨g, cap, cur, rfl, _, hg, _⟩
  · exact .inl rfl
  · rcases k.2 with ⟨rfl, _⟩ | ⟨g', cap', cur', rfl, _, hg', _⟩
    · exact .inr (by simp [Value.ownBlock])
    · refine .inr fun e => ?_
      obtain rfl : g = g' := by simpa [Value.ownBlock] using e
      rw [hg] at hg'
      simp at hg'
      exact hne hg'.2
theorem OwnR.empty {X : World} {e b n c : Nat} {A : Option Addr} {xs : List Rw} (h : OwnR X e b A n c xs) : OwnR X e b A 0 c [] := by
  have hl := h.len
  refine ⟨rfl, ?_⟩
  rcases h.2 with ⟨hv, h0⟩ | ⟨g, cap, cur, hv, hB, hh, hnc, hm, hcs, hx⟩
  · injection hv with h1 h2 h3
    subst h1 h3
    exact .inl ⟨rfl, rfl⟩
  · injection hv with h1 h2 h3
    subst h1 h3
    exact .inr ⟨g, _, cur, rfl, hB, hh, Nat.zero_le _, hm, hcs, by simp [rwCs]⟩
/-- The state of the loop: two slices and their rows, two results, the table. -/
structure GS (w V : World) (A : Option Addr) (c : Nat) (l : List Rw) (A' : Option Addr) (c' : Nat) (op : List Rw) : Prop where
  bL : Boxed V w.heap.size 22 (.slice A l.length c)
  bI : Boxed V (w.heap.size + 1) 3 (.int .i64 0)
  bE : Boxed V (w.heap.size + 1 + 1) 23 (.int .i64 0)
  bO : Boxed V (w.heap.size + 1 + 1 + 1) 78 (.slice A' op.length c')
  oL : OwnR V 38 w.heap.size A l.length c l
  oO : OwnR V 83 w.heap.size A' op.length c' op
  mx : MaxIs V
  bel : Below w.heap.size w V
theorem GS.grown {w V W : World} {A A' : Option Addr} {c c' : Nat} {l op : List Rw} (h : GS w V A c l A' c' op) (b : Below V.heap.size V W) : GS w W A c l A' c' op :=
  ⟨h.bL.kept (g_of_below b) (by simp), h.bI.kept (g_of_below b) (by simp), h.bE.kept (g_of_below b) (by simp), h.bO.kept (g_of_below b) (by simp), h.oL.keep b, h.oO.keep b, h.mx.below b, blw h.bel b⟩
/-- What the body of the loop keeps. -/
def KB (c : Nat) (V W : World) : Prop := KeepsOthers V W ∧ ∀ B t v, c ≤ B → (t = 9 ∨ t = 3 ∨ t = 96) → Boxed V B t v → Boxed W B t v
theorem KB.trans {c : Nat} {X Y Z : World} (h : KB c X Y) (k : KB c Y Z) : KB c X Z := ⟨h.1.trans k.1, fun B t v hB ht hv => k.2 B t v hB ht (h.2 B t v hB ht hv)⟩
theorem kb_below {c : Nat} {V W : World} (b : Below V.heap.size V W) : KB c V W := ⟨KeepsOthers.of_grownBy (g_of_below b) (fun _ _ e => (by cases e)), fun _ _ _ _ _ hv => hv.kept (g_of_below b) (by simp)⟩
theorem kb_drew {c : Nat} (V : World) : KB c V V.drew := ⟨KeepsOthers.drew V, fun _ _ _ _ _ hv => hv⟩
theorem kb_setc {c B' j : Nat} {V : World} (v : Value) (h : B' < c) : KB c V (V.setCell ⟨B', j, none⟩ v) := ⟨KeepsOthers.setCell _ _ _, fun B t u hB _ hv => boxed_other hv (by omega) v⟩
theorem kb_grown {c b e s n : Nat} {V W : World} {u : Value} {xs : List Value} (h : V.ownsRow b e s u n xs) (g : V.grownBy W u.ownBlock) (he : e = 38 ∨ e = 83) : KB c V W := by
  refine ⟨KeepsOthers.of_grownBy g (fun j o e hj => ?_), fun B t v _ ht hv => hv.kept g (hv.not_row ?_ h)⟩
  · rcases h.2 with ⟨rfl, _⟩ | ⟨g', cap, cur, rfl, _, hg, _⟩
    · cases e
    · obtain rfl : g' = j := by simpa [Value.ownBlock] using e
      rw [hg] at hj
      cases hj
      rfl
  · rcases he with rfl | rfl <;> rcases ht with rfl | rfl | rfl <;> decide
theorem KB.post {c b : Nat} {V W : World} (h : KB c V W) (hm : MaxIs W) : KeepsFrom b V W ∧ KpL c V W := ⟨h.1.from _, h.1.from _, h.2, fun _ => hm⟩
theorem g_row_low {V W : World} {b e s n : Nat} {u : Value} {xs : List Value} (h : V.ownsRow b e s u n xs) (g : V.grownBy W u.ownBlock) (hb : b ≤ V.heap.size) : Below b V W :=
  (Below.refl b V).grown g hb (fun k hk => (h.lt k hk).1)
theorem max_row {V W : World} {b e s n : Nat} {u : Value} {xs : List Value} (hm : MaxIs V) (h : V.ownsRow b e s u n xs) (g : V.grownBy W u.ownBlock) (hb : 0 < b) : MaxIs W := by
  obtain ⟨m, hm⟩ := hm
  exact ⟨m, g.cell hm (fun e => by have := (h.lt _ e.symm).1; simp at this; omega)⟩
theorem GS.low {w V : World} {A A' : Option Addr} {c c' : Nat} {l op : List Rw} (h : GS w V A c l A' c' op) (hm : MaxIs w) : 0 < w.heap.size := by
  obtain ⟨m, hm⟩ := hm
  exact g_lt hm
/-- One line more is open. -/
theorem GS.more {w V W : World} {A A' A2 : Option Addr} {c c' c2 : Nat} {l op : List Rw} {x : Rw} (h : GS w V A c l A' c' op) (hm : MaxIs w) (ho : OwnR W 83 w.heap.size A2 (op.length + 1) c2 (op ++ [x])) (g : V.grownBy W (Value.slice A' op.length c').ownBlock) :
    GS w (W.setCell ⟨w.heap.size + 1 + 1 + 1, 0, none⟩ (.slice A2 (op.length + 1) c2)) A c l A2 c2 (op ++ [x]) := by
  have hg := h.low hm
  have k1 := h.bL.kept g (h.bL.not_row (by decide) h.oO)
  have k2 := h.bI.kept g (h.bI.not_row (by decide) h.oO)
  have k3 := h.bE.kept g (h.bE.not_row (by decide) h.oO)
  have k4 := h.bO.kept g (h.bO.not_row (by decide) h.oO)
  have k5 : OwnR W 38 w.heap.size A l.length c l := World.ownsRow.kept h.oL g (own_apart h.oL h.oO (by decide))
  have e : (op ++ [x]).length = op.length + 1 := by simp
  refine ⟨k1.other (by omega) _, k2.other (by omega) _, k3.other (by omega) _, ?_, ?_, ?_, (max_row h.mx h.oO g hg).set (by omega) _, bset (Below.grown h.bel g h.bel.size (fun k hk => (h.oO.lt k hk).1)) (by omega) _⟩
  · rw [e]; exact k4.set _
  · exact World.ownsRow.kept k5 (grownBy_setCell' W _ _) (.inr (k4.not_row (by decide) k5).symm)
  · rw [e]; exact World.ownsRow.kept ho (grownBy_setCell' W _ _) (.inr (k4.not_row (by decide) ho).symm)
/-- A row is done, and no line is open. -/
theorem GS.done {w V W : World} {A A' A2 : Option Addr} {c c' c2 : Nat} {l op : List Rw} {y : Rw} (h : GS w V A c l A' c' op) (hm : MaxIs w) (ho : OwnR W 38 w.heap.size A2 (l.length + 1) c2 (l ++ [y])) (g : V.grownBy W (Value.slice A l.length c).ownBlock) :
    GS w ((W.setCell ⟨w.heap.size, 0, none⟩ (.slice A2 (l.length + 1) c2)).setCell ⟨w.heap.size + 1 + 1 + 1, 0, none⟩ (.slice A' 0 c')) A2 c2 (l ++ [y]) A' c' [] := by
  have hg := h.low hm
  have k1 := h.bL.kept g (h.bL.not_row (by decide) h.oL)
  have k2 := h.bI.kept g (h.bI.not_row (by decide) h.oL)
  have k3 := h.bE.kept g (h.bE.not_row (by decide) h.oL)
  have k4 := h.bO.kept g (h.bO.not_row (by decide) h.oL)
  have k5 : OwnR W 83 w.heap.size A' op.length c' op := World.ownsRow.kept h.oO g (own_apart h.oO h.oL (by decide))
  have e : (l ++ [y]).length = l.length + 1 := by simp
  have k4' := k4.other (B' := w.heap.size) (by omega) (.slice A2 (l.length + 1) c2)
  have ho1 : OwnR (W.setCell ⟨w.heap.size, 0, none⟩ (.slice A2 (l.length + 1) c2)) 38 w.heap.size A2 (l.length + 1) c2 (l ++ [y]) := World.ownsRow.kept ho (grownBy_setCell' W _ _) (.inr (k1.not_row (by decide) ho).symm)
  have k6 : OwnR (W.setCell ⟨w.heap.size, 0, none⟩ (.slice A2 (l.length + 1) c2)) 83 w.heap.size A' op.length c' op := World.ownsRow.kept k5 (grownBy_setCell' W _ _) (.inr (k1.not_row (by decide) k5).symm)
  refine ⟨?_, (k2.other (by omega) _).other (by omega) _, (k3.other (by omega) _).other (by omega) _, k4'.set _, ?_, ?_, ((max_row h.mx h.oL g hg).set (by omega) _).set (by omega) _, bset (bset (Below.grown h.bel g h.bel.size (fun k hk => (h.oL.lt k hk).1)) (by omega) _) (by omega) _⟩
  · rw [e]; exact (k1.set _).other (by omega) _
  · rw [e]; exact World.ownsRow.kept ho1 (grownBy_setCell' _ _ _) (.inr (k4'.not_row (by decide) ho1).symm)
  · exact (OwnR.empty k6).kept (grownBy_setCell' _ _ _) (.inr (k4'.not_row (by decide) (OwnR.empty k6)).symm)
/-- The world behind an error. -/
theorem GS.stop {w V : World} {A A' : Option Addr} {c c' : Nat} {l op : List Rw} (h : GS w V A c l A' c' op) (hm : MaxIs w) (n e : Int) :
    (Boxed (((V.setCell ⟨w.heap.size, 0, none⟩ (.slice none 0 0)).setCell ⟨w.heap.size + 1, 0, none⟩ (.int .i64 n)).setCell ⟨w.heap.size + 1 + 1, 0, none⟩ (.int .i64 e)) w.heap.size 22 (.slice none 0 0) ∧
    Boxed (((V.setCell ⟨w.heap.size, 0, none⟩ (.slice none 0 0)).setCell ⟨w.heap.size + 1, 0, none⟩ (.int .i64 n)).setCell ⟨w.heap.size + 1 + 1, 0, none⟩ (.int .i64 e)) (w.heap.size + 1) 3 (.int .i64 n) ∧
    Boxed (((V.setCell ⟨w.heap.size, 0, none⟩ (.slice none 0 0)).setCell ⟨w.heap.size + 1, 0, none⟩ (.int .i64 n)).setCell ⟨w.heap.size + 1 + 1, 0, none⟩ (.int .i64 e)) (w.heap.size + 1 + 1) 23 (.int .i64 e)) ∧
    MaxIs (((V.setCell ⟨w.heap.size, 0, none⟩ (.slice none 0 0)).setCell ⟨w.heap.size + 1, 0, none⟩ (.int .i64 n)).setCell ⟨w.heap.size + 1 + 1, 0, none⟩ (.int .i64 e)) ∧
    Below w.heap.size w (((V.setCell ⟨w.heap.size, 0, none⟩ (.slice none 0 0)).setCell ⟨w.heap.size + 1, 0, none⟩ (.int .i64 n)).setCell ⟨w.heap.size + 1 + 1, 0, none⟩ (.int .i64 e)) := by
  have hg := h.low hm
  exact ⟨⟨((h.bL.set _).other (by omega) _).other (by omega) _, ((h.bI.other (by omega) _).set _).other (by omega) _, ((h.bE.other (by omega) _).other (by omega) _).set _⟩, ((h.mx.set (by omega) _).set (by omega) _).set (by omega) _, bset (bset (bset h.bel (by omega) _) (by omega) _) (by omega) _⟩
end Go.Proofs.YtkhmpmjonkmbeaaDoor
