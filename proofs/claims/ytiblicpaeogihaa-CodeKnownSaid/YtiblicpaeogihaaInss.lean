/- Slices of instructions: what can be read, what is a row of a call's own, appends. -/
import Derived.Test.YtiblicpaeogihaaFix
namespace Go.Proofs.Ytiblicpaeogihaa
open Go Go.RowKit

abbrev II := Nat × Int
def i0 : II := (0, 0)
def is (l : List II) : List Value := l.flatMap fun p => [.int .u8 (p.1 : Int), .int .i32 p.2]
theorem is_nil : is [] = [] := rfl
theorem is_app (l k : List II) : is (l ++ k) = is l ++ is k := by simp [is]
theorem is_len (l : List II) : (is l).length = l.length * 2 := by
  induction l with
  | nil => rfl
  | cons p l ih => rw [show is (p :: l) = .int .u8 (p.1 : Int) :: .int .i32 p.2 :: is l from rfl]; simp only [List.length_cons, ih]; omega
theorem is_one (l : List II) : ∀ v ∈ is l, v.oneCell' = true := by
  intro v hv
  simp only [is, List.mem_flatMap, List.mem_cons, List.not_mem_nil, or_false] at hv
  obtain ⟨p, _, rfl | rfl⟩ := hv <;> rfl
theorem is_at {l : List II} {j : Nat} (h : j < l.length) : (is l)[j * 2]? = some (.int .u8 ((l.getD j i0).1 : Int)) ∧ (is l)[j * 2 + 1]? = some (.int .i32 (l.getD j i0).2) := by
  induction l generalizing j with
  | nil => simp at h
  | cons p l ih =>
    rw [show is (p :: l) = .int .u8 (p.1 : Int) :: .int .i32 p.2 :: is l from rfl]
    cases j with
    | zero => exact ⟨rfl, rfl⟩
    | succ j =>
      have := ih (j := j) (by simpa using h)
      rw [show (j + 1) * 2 = j * 2 + 1 + 1 by omega, show j * 2 + 1 + 1 + 1 = (j * 2 + 1) + 1 + 1 by omega]
      simp only [List.getElem?_cons_succ, List.getD_cons_succ]
      exact this
def OKI (l : List II) : Prop := ∀ p ∈ l, p.1 < 256 ∧ isW p.2
theorem OKI.get {l : List II} (h : OKI l) (j : Nat) : (l.getD j i0).1 < 256 ∧ isW (l.getD j i0).2 := by
  by_cases hj : j < l.length
  · have e : l.getD j i0 = l[j] := by simp [hj]
    rw [e]
    exact h _ (List.getElem_mem hj)
  · have e : l.getD j i0 = i0 := by simp [List.getElem?_eq_none (show l.length ≤ j by omega)]
    rw [e]; exact ⟨by decide, by unfold isW i0; omega⟩
theorem OKI.take {l : List II} (h : OKI l) (m : Nat) : OKI (l.take m) := fun p hp => h p (List.mem_of_mem_take hp)
theorem OKI.app {l k : List II} (h : OKI l) (h' : OKI k) : OKI (l ++ k) := fun p hp => (List.mem_append.1 hp).elim (h p) (h' p)
/-- A slice of instructions that can be read. -/
structure RI (w : World) (A : Option Addr) (c : Nat) (l : List II) : Prop where
  le : l.length ≤ c
  mx : c ≤ maxLen
  ok : OKI l
  rd : ∀ j, j < l.length → ∃ ad, A = some ad ∧ w.cell? (ad.add (j * 2)) = some (.int .u8 ((l.getD j i0).1 : Int)) ∧ w.cell? ⟨(ad.add (j * 2)).block, (ad.add (j * 2)).off + 1, none⟩ = some (.int .i32 (l.getD j i0).2)
theorem RI.kept0 {w w' : World} {A : Option Addr} {c : Nat} {l : List II} (h : RI w A c l) (hg : w.grownBy w' none) : RI w' A c l :=
  ⟨h.le, h.mx, h.ok, fun j hj => by
    obtain ⟨ad, e, h1, h2⟩ := h.rd j hj
    exact ⟨ad, e, hg.cell h1 (by simp), hg.cell h2 (by simp)⟩⟩
theorem RI.take {w : World} {A : Option Addr} {c : Nat} {l : List II} (h : RI w A c l) (m : Nat) : RI w A c (l.take m) :=
  ⟨by have := h.le; simp; omega, h.mx, h.ok.take m, fun j hj => by
    simp only [List.length_take] at hj
    obtain ⟨ad, e, h1, h2⟩ := h.rd j (by omega)
    have e2 : (l.take m).getD j i0 = l.getD j i0 := by
      simp only [List.getD_eq_getElem?_getD]
      rw [List.getElem?_take, if_pos (by omega)]
    rw [e2]
    exact ⟨ad, e, h1, h2⟩⟩
theorem RI.nil (w : World) : RI w none 0 [] := ⟨Nat.le_refl _, by simp [maxLen], (fun _ h => nomatch h), (fun j h => absurd h (by simp))⟩
theorem ins_of_is {w : World} {A : Option Addr} {len cap : Nat} (h : IsIs w A len ∧ len ≤ cap ∧ cap ≤ maxLen) : ∃ l : List II, l.length = len ∧ RI w A cap l := by
  obtain ⟨H, h1, h2⟩ := h
  have K : ∀ i, ∃ p : II, i < len → (p.1 < 256 ∧ isW p.2) ∧ ∃ ad, A = some ad ∧ w.cell? (ad.add (i * 2)) = some (.int .u8 (p.1 : Int)) ∧ w.cell? ⟨(ad.add (i * 2)).block, (ad.add (i * 2)).off + 1, none⟩ = some (.int .i32 p.2) := by
    intro i
    by_cases hi : i < len
    · obtain ⟨ad, cs, e, ⟨f, v, rfl, hf, hv⟩, _, hc⟩ := H i hi
      refine ⟨(f, v), fun _ => ⟨⟨hf, hv⟩, ad, e, ?_, ?_⟩⟩
      · have := hc 0 (by omega)
        rw [show ((ad.add (i * 2)).add 0) = ad.add (i * 2) by rw [add_add_, Nat.add_zero]] at this
        exact this
      · have := hc 1 (by omega)
        rw [add_succ_] at this
        exact this
    · exact ⟨i0, fun h => absurd h hi⟩
  refine ⟨(List.range len).map fun i => Classical.choose (K i), by simp, ⟨by simpa using h1, h2, ?_, ?_⟩⟩
  · intro p hp
    simp only [List.mem_map, List.mem_range] at hp
    obtain ⟨i, hi, rfl⟩ := hp
    exact (Classical.choose_spec (K i) hi).1
  · intro j hj
    simp only [List.length_map, List.length_range] at hj
    have e : ((List.range len).map fun i => Classical.choose (K i)).getD j i0 = Classical.choose (K j) := by simp [hj]
    rw [e]
    exact (Classical.choose_spec (K j) hj).2
/-- A row of instructions of the call's own. -/
def OwnI (w : World) (B : Nat) (A : Option Addr) (n c : Nat) (l : List II) : Prop := w.ownsRow B 23 2 (.slice A n c) n (is l)
theorem OwnI.len {w : World} {B n c : Nat} {A : Option Addr} {l : List II} (h : OwnI w B A n c l) : l.length = n := by
  have := h.1
  rw [is_len] at this
  omega
theorem OwnI.ri {w : World} {B n c : Nat} {A : Option Addr} {l : List II} (h : OwnI w B A n c l) (ho : OKI l) : RI w A c l := by
  have hl := h.len
  rcases h.2 with ⟨hv, h0⟩ | ⟨g, cap, cur, hv, hB, hh, hnc, hm, hcs, hx⟩
  · injection hv with h1 h2 h3
    subst h1
    obtain rfl : l = [] := List.eq_nil_of_length_eq_zero (by omega)
    exact ⟨by simp, by rw [h3]; simp [maxLen], ho, (fun j h => absurd h (by simp))⟩
  · injection hv with h1 h2 h3
    subst h1 h3
    refine ⟨by omega, hm, ho, fun j hj => ⟨_, rfl, ?_, ?_⟩⟩
    · exact World.ownsRow.cells h rfl (j * 2) _ (is_at hj).1
    · have := World.ownsRow.cells h rfl (j * 2 + 1) _ (is_at hj).2
      rw [add_plain] at this ⊢
      simpa [Nat.add_assoc] using this
theorem ins_info : (Try.prog.info? 23).map (fun i => (i.zero, i.size, i.bytes)) = some (some (.agg #[.int .u8 0, .int .i32 0]), 2, 8) := by kernel_rfl
theorem g_app2 {w0 w w' : World} {v : Value} {n : Nat} {xs : List Value} {e : TypeId} {s : Nat} (h : w0.grownBy w none) (hown : w.ownsRow w0.heap.size e s v n xs) (k : w.grownBy w' v.ownBlock) : w0.grownBy w' none :=
  ⟨k.os.trans h.os, k.tape.trans h.tape, k.output.trans h.output, Nat.le_trans h.size k.size, fun i hi _ => (k.block i (Nat.lt_of_lt_of_le hi h.size) (fun e => by have := (hown.lt i e.symm).1; omega)).trans (h.block i hi (by simp))⟩
/-- One instruction appended to a row of the call's own. -/
theorem app_ins {w : World} {ops : Array Oper} {rest : List Oper} {o : Oper} {a : Act} {Q : Exit → Act → World → Prop} (hgd : o.guard = none) (s x : Operand)
    (ho : o.op = .call { callee := .builtin .append, args := #[s, x], argTypes := #[43, 43] }) (base n c k : Nat) (A : Option Addr) (B : Nat) (l : List II) (f : Nat) (v : Int) (hs : a.eval s = .slice A n c) (hx : a.eval x = .slice (some ⟨B, 0, none⟩) 1 k)
    (hown : OwnI w base A n c l) (hc : w.cell? ⟨B, 0, none⟩ = some (.int .u8 (f : Int)) ∧ w.cell? ⟨B, 1, none⟩ = some (.int .i32 v)) (hl : n ≤ 1000000) (hbase : base ≤ w.heap.size)
    (h : ∀ g c2 w', OwnI w' base (some ⟨g, 0, none⟩) (n + 1) c2 (l ++ [(f, v)]) → w.grownBy w' (Value.slice A n c).ownBlock → ((Value.slice A n c).ownBlock = some g ∨ w.heap.size ≤ g) → wpList Try.prog ops Q rest (a.put o.dst (.slice (some ⟨g, 0, none⟩) (n + 1) c2)) w') : wpList Try.prog ops Q (o :: rest) a w := by
  obtain ⟨i0, hi0, hz0, hz1, hz2⟩ := info_parts ins_info
  refine wpList_append_lies (w := w) hgd s x 43 ho base 23 i0 (.agg #[.int .u8 0, .int .i32 0]) 2 8 Try.underlying43 hi0 hz0 hz1 hz2 rfl (by omega) (.slice A n c) n (is l) hs hown ⟨B, 0, none⟩ 1 k [.int .u8 (f : Int), .int .i32 v] hx rfl ?_ ?_ (by omega)
    (by unfold maxLen; omega) (by omega) hbase w.heap.size rfl ?_
  · intro j u hj
    match j with
    | 0 => simp at hj; subst hj; exact hc.1
    | 1 => simp at hj; subst hj; exact hc.2
    | j + 2 => simp at hj
  · intro u hu
    simp at hu
    rcases hu with rfl | rfl <;> rfl
  · intro g cap w' h1 h2 h3 _
    exact h g cap w' (by unfold OwnI; rw [is_app]; exact h1) h2 (h3.imp id (fun e => by omega))
/-- Instructions appended to a row of the call's own. -/
theorem app_inss {w : World} {ops : Array Oper} {rest : List Oper} {o : Oper} {a : Act} {Q : Exit → Act → World → Prop} (hgd : o.guard = none) (s x : Operand)
    (ho : o.op = .call { callee := .builtin .append, args := #[s, x], argTypes := #[43, 43] }) (base n c m d l : Nat) (A A' : Option Addr) (xs ys : List II) (hs : a.eval s = .slice A n c) (hx : a.eval x = .slice A' m d)
    (hown : OwnI w base A n c xs) (hy : ys.length = m) (R : RI w A' d ys) (hl : n + m = l) (h63 : l ≤ 1000000) (hbase : base ≤ w.heap.size)
    (h : ∀ A2 c2 w', OwnI w' base A2 l c2 (xs ++ ys) → w.grownBy w' (Value.slice A n c).ownBlock → ((Value.slice A n c).ownBlock = (Value.slice A2 l c2).ownBlock ∨ ∀ g, (Value.slice A2 l c2).ownBlock = some g → w.heap.size ≤ g) → wpList Try.prog ops Q rest (a.put o.dst (.slice A2 l c2)) w') : wpList Try.prog ops Q (o :: rest) a w := by
  obtain ⟨i0, hi0, hz0, hz1, hz2⟩ := info_parts ins_info
  rcases Nat.eq_zero_or_pos m with hm0 | hm0
  · subst hm0
    obtain rfl : ys = [] := List.eq_nil_of_length_eq_zero hy
    have hrun : (Builtin.append_ #[43, 43] o.type #[.slice A n c, .slice A' 0 d]).run Try.prog w = .ok (.slice A n c) w := by
      rcases hown.2 with ⟨hv, h0⟩ | ⟨g, cap, cur, hv, _, _, hnc, _⟩
      · injection hv with h1 h2 h3
        subst h1; subst h3
        simp [Builtin.append_, run_underlying Try.underlying43, sizeOf, typeInfo, hi0, Builtin.lenOf, Builtin.firstCells, h0]
        rcases A' with _ | ad
        · simp
        · have hld := run_loadCells_list (P := Try.prog) w ad [] (by intro j u hj; simp at hj)
          simp only [List.length_nil] at hld
          simp [hld]
      · injection hv with h1 h2 h3
        subst h1; subst h3
        simp [Builtin.append_, run_underlying Try.underlying43, sizeOf, typeInfo, hi0, Builtin.lenOf, Builtin.firstCells, hnc, storeCells]
        rcases A' with _ | ad
        · simp [storeCells]
        · have hld := run_loadCells_list (P := Try.prog) w ad [] (by intro j u hj; simp at hj)
          simp only [List.length_nil] at hld
          simp [hld, storeCells]
    refine wpList_plain hgd fun K hK => ?_
    unfold Oper.wp execOp
    simp only [ho, resolve, invoke, builtin, Sem.run_bind, Sem.run_pure, Result.andThen_ok, List.map_toArray, List.map_cons, List.map_nil, hs, hx, hrun]
    subst hl
    exact hK _ _ (h A c w (by rw [List.append_nil]; exact hown) (World.grownBy.refl w _) (.inl rfl))
  · obtain ⟨ad, rfl, _⟩ := R.rd 0 (by omega)
    refine wpList_append_lies (w := w) hgd s x 43 ho base 23 i0 (.agg #[.int .u8 0, .int .i32 0]) 2 8 Try.underlying43 hi0 hz0 hz1 hz2 rfl (by omega) (.slice A n c) n (is xs) hs hown ad m d (is ys) hx (by rw [is_len, hy]) ?_ (is_one ys) hm0
      (by unfold maxLen; omega) (by omega) hbase w.heap.size rfl ?_
    · intro j u hj
      have hjl : j < ys.length * 2 := by
        have := (List.getElem?_eq_some_iff.1 hj).1
        rwa [is_len] at this
      obtain ⟨ad', e, h1, h2⟩ := R.rd (j / 2) (by omega)
      cases e
      obtain ⟨k1, k2⟩ := is_at (l := ys) (j := j / 2) (by omega)
      by_cases hp : j % 2 = 0
      · rw [show j / 2 * 2 = j by omega] at h1 k1
        rw [k1] at hj; cases hj; exact h1
      · rw [show j / 2 * 2 + 1 = j by omega] at k2
        rw [k2] at hj; cases hj
        rw [← h2]
        obtain ⟨q, rfl⟩ : ∃ q, j = q * 2 + 1 := ⟨j / 2, by omega⟩
        rw [show (q * 2 + 1) / 2 * 2 = q * 2 by omega, ← add_add_, add_succ_]
    · intro g cap w' h1 h2 h3 _
      subst hl
      exact h _ cap w' (by unfold OwnI; rw [is_app]; exact h1) h2 (h3.imp (fun e => e) (fun e g' e' => by cases e'; simp only [Value.ownBlock] at *; omega))
end Go.Proofs.Ytiblicpaeogihaa
