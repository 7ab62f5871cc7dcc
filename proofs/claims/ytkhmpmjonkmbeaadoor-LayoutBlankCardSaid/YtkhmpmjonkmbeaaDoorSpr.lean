/- Lines in a slice of the call's own, and appends of such slices in whatever order. -/
import Derived.Test.YtkhmpmjonkmbeaaDoorLbx
import Derived.Test.YtkhmpmjonkmbeaaDoorSpp
set_option linter.unusedVariables false
set_option linter.unusedSimpArgs false
namespace Go.Proofs.YtkhmpmjonkmbeaaDoor
open Go Go.RowKit L7

theorem splitB_lns (l : Bs) : Lib.splitB ⟨#[10]⟩ 0 (Lib.countB (strOf l) ⟨#[10]⟩) (strOf l) = (lnsOf l).map strOf := by
  have h1 := Lib.splitB_data ⟨#[10]⟩ 0 (Lib.countB (strOf l) ⟨#[10]⟩) (strOf l)
  rw [data_strOf] at h1
  have h2 : Lib.countB (strOf l) ⟨#[10]⟩ = Lib.count l [10] := by
    show Lib.count (strOf l).data.toList _ = _
    rw [data_strOf]
  have h3 := split_lns (Lib.countB (strOf l) ⟨#[10]⟩) l (by rw [h2, count_ten]; exact Nat.le_refl _)
  have h4 : (⟨#[10]⟩ : ByteArray).data.toList = [10] := rfl
  rw [h4, h3] at h1
  rw [← h1, List.map_map]
  conv => lhs; rw [← List.map_id (Lib.splitB _ _ _ _)]
  exact List.map_congr_left fun b _ => str_self b
theorem countB_lns (l : Bs) : Lib.countB (strOf l) ⟨#[10]⟩ + 1 = (lnsOf l).length := by
  have h2 : Lib.countB (strOf l) ⟨#[10]⟩ = Lib.count l [10] := by
    show Lib.count (strOf l).data.toList _ = _
    rw [data_strOf]
  rw [h2, count_ten]
theorem cSplit (l : Bs) (hl : l.length ≤ 1000000) (w : World) (hm : MaxIs w) : Calls Tryd.prog 21 #[.string (strOf l), .string ⟨#[10]⟩] w fun e w' =>
    e = .returned (.slice (some ⟨w.heap.size, 0, none⟩) (lnsOf l).length (lnsOf l).length) ∧ OwnS w' w.heap.size (some ⟨w.heap.size, 0, none⟩) (lnsOf l).length (lnsOf l).length (lnsOf l) ∧ Below w.heap.size w w' := by
  obtain ⟨m, hm⟩ := hm
  refine (Tryd.strings_Split (strOf l) ⟨#[10]⟩ m w (by rw [size_strOf]; omega) hm (by decide)).mono fun e w' h => ?_
  obtain ⟨h1, rfl⟩ := h
  rw [splitB_lns, List.map_map]
  rw [countB_lns] at h1
  have hln := lns_len l
  refine ⟨h1, ⟨by rw [sC_len]; omega, .inr ⟨w.heap.size, (lnsOf l).length, _, rfl, Nat.le_refl _, boxS_new w _ _, Nat.le_refl _, by unfold maxLen; omega, by simp, ?_⟩⟩, bal (b0 w) _⟩
  show List.take _ (((lnsOf l).map (Value.string ∘ strOf)).toArray).toList = sC (lnsOf l)
  unfold sC
  rw [List.take_of_length_le (by simp)]
  rfl
theorem SS.take {w : World} {A : Option Addr} {c : Nat} {ss : List Bs} (h : SS w A c ss) (k : Nat) : SS w A c (ss.take k) :=
  ⟨by have := h.le; simp; omega, h.mx, fun j hj => by
    rw [List.length_take] at hj
    obtain ⟨ad, e, hr⟩ := h.rd j (by omega)
    refine ⟨ad, e, ?_⟩
    have : (ss.take k).getD j [] = ss.getD j [] := by simp [List.getElem?_take, show j < k by omega]
    rw [this]
    exact hr⟩
theorem SS.drop {w : World} {g c : Nat} {ss : List Bs} (h : SS w (some ⟨g, 0, none⟩) c ss) (k : Nat) (hk : k ≤ ss.length) : SS w (some ⟨g, k, none⟩) (c - k) (ss.drop k) :=
  ⟨by have := h.le; simp; omega, by have := h.mx; omega, fun j hj => by
    rw [List.length_drop] at hj
    obtain ⟨ad, e, hr⟩ := h.rd (k + j) (by omega)
    injection e with e
    subst e
    refine ⟨_, rfl, ?_⟩
    rw [add_plain, Nat.zero_add] at hr
    rw [add_plain, hr]
    have : (ss.drop k).getD j [] = ss.getD (k + j) [] := by simp
    rw [this]⟩
set_option maxRecDepth 100000 in
theorem run_strs_none {w : World} {base n c d : Nat} {A A' : Option Addr} {xs : List Bs} {ty : TypeId} (hown : OwnS w base A n c xs) : (Builtin.append_ #[41, 41] ty #[.slice A n c, .slice A' 0 d]).run Tryd.prog w = .ok (.slice A n c) w := by
  obtain ⟨i0, hi0, hz0, hz1, hz2⟩ := info_parts str_info
  rcases hown.2 with ⟨hv, h0⟩ | ⟨g, cap, cur, hv, _, _, hnc, _⟩
  · injection hv with h1 h2 h3
    subst h1; subst h3
    simp [Builtin.append_, run_underlying Tryd.underlying41, sizeOf, typeInfo, hi0, Builtin.lenOf, Builtin.firstCells, h0]
    rcases A' with _ | ad
    · simp
    · have hld := run_loadCells_list (P := Tryd.prog) w ad [] (by intro j u hj; simp at hj)
      simp only [List.length_nil] at hld
      simp [hld]
  · injection hv with h1 h2 h3
    subst h1; subst h3
    simp [Builtin.append_, run_underlying Tryd.underlying41, sizeOf, typeInfo, hi0, Builtin.lenOf, Builtin.firstCells, hnc, storeCells]
    rcases A' with _ | ad
    · simp [storeCells]
    · have hld := run_loadCells_list (P := Tryd.prog) w ad [] (by intro j u hj; simp at hj)
      simp only [List.length_nil] at hld
      simp [hld, storeCells]
theorem run_strs_any {w : World} {base n c m d : Nat} {A A' : Option Addr} {xs ys : List Bs} {ty : TypeId} (hown : OwnS w base A n c xs) (hy : ys.length = m) (R : SS w A' d ys) (h63 : n + m ≤ 1000000) (hbase : base ≤ w.heap.size) :
    ∃ A2 c2 w', (Builtin.append_ #[41, 41] ty #[.slice A n c, .slice A' m d]).run Tryd.prog w = .ok (.slice A2 (n + m) c2) w' ∧ OwnS w' base A2 (n + m) c2 (xs ++ ys) ∧ w.grownBy w' (Value.slice A n c).ownBlock := by
  rcases Nat.eq_zero_or_pos m with hm0 | hm0
  · subst hm0
    obtain rfl : ys = [] := List.eq_nil_of_length_eq_zero hy
    exact ⟨A, c, w, run_strs_none hown, by rw [List.append_nil]; exact hown, World.grownBy.refl w _⟩
  · exact run_strs hown hy hm0 R h63 hbase
/-- An append in a region that draws its order. -/
theorem step_strs {X : World} {ops : Array Oper} {o : Oper} {a : Act} {K : Act → World → Prop} {Q : Exit → Act → World → Prop} {E : Prop} (hgd : o.guard = none) (s x : Operand)
    (ho : o.op = .call { callee := .builtin .append, args := #[s, x], argTypes := #[41, 41] }) (base n c m d l : Nat) (A A' : Option Addr) (xs ys : List Bs) (hs : a.eval s = .slice A n c) (hx : a.eval x = .slice A' m d)
    (hown : OwnS X base A n c xs) (hy : ys.length = m) (R : SS X A' d ys) (hl : n + m = l) (h63 : l ≤ 1000000) (hbase : base ≤ X.heap.size)
    (h : ∀ A2 c2 w', OwnS w' base A2 l c2 (xs ++ ys) → X.grownBy w' (Value.slice A n c).ownBlock → K (a.put o.dst (.slice A2 l c2)) w') :
    if Region.wanted o (yielded ops a.tmps) = true then Oper.wp Tryd.prog o a X K Q else E := by
  have hw : Region.wanted o (yielded ops a.tmps) = true := by simp [Region.wanted, hgd]
  rw [if_pos hw]
  subst hl
  obtain ⟨A2, c2, w', hr, h1, h2⟩ := run_strs_any (ty := o.type) hown hy R h63 hbase
  unfold Oper.wp execOp
  simp only [ho, resolve, invoke, builtin, Sem.run_bind, Sem.run_pure, Result.andThen_ok, List.map_toArray, List.map_cons, List.map_nil, hs, hx, hr]
  exact h A2 c2 w' h1 h2
theorem ownS_e {w : World} {B k : Nat} (hk : w.heap[k]? = some (.cells #[] 9 (0, 0))) (hB : B ≤ k) : OwnS w B (some ⟨k, 0, none⟩) 0 0 [] :=
  ⟨rfl, .inr ⟨k, 0, #[], rfl, hB, hk, Nat.le_refl _, by simp [maxLen], rfl, rfl⟩⟩
end Go.Proofs.YtkhmpmjonkmbeaaDoor
