/- What the rows list, as the laws take it. -/
import Derived.Test.YtimbiobonigdmaaGreatDoorOpx
import Derived.Test.YtimbiobonigdmaaGreatDoorRows
import Derived.Lib.LaidTab
import Derived.Stop.LaidErr
import Derived.LaidMore
import Derived.Deep.Slices
import Derived.ChangeSame
set_option linter.unusedVariables false
set_option linter.unusedSimpArgs false
set_option linter.unusedVariables false
set_option linter.unusedSimpArgs false
namespace Go.Proofs.YtimbiobonigdmaaGreatDoor
open Go Go.RowKit Go.ChangeShapes Go.WideShapes Go.Deep Go.ChangeAt L8 L10 L14

abbrev Fm : Type := Int × Int × Nat × Nat × Nat × Nat × Bool × Nat
def fmD {H : Type} (r : Fm) : DataW H := .agg [.lit (.int .i32 r.1), .lit (.int .i32 r.2.1), .lit (.int .u8 (r.2.2.1 : Int)), .lit (.int .u8 (r.2.2.2.1 : Int)), .lit (.int .u8 (r.2.2.2.2.1 : Int)), .lit (.int .u8 (r.2.2.2.2.2.1 : Int)), .lit (.bool r.2.2.2.2.2.2.1), .lit (.int .i64 (r.2.2.2.2.2.2.2 : Int))]
/-- An array of rows of eight cells that reads as these rows holds them. -/
theorem cells_of_forms {H : Type} {enc : TypeId × Value → H} {w : World} {base : Nat} {sp : Nat → Bool} {held : Bool} {fuel : Nat} {cs : List Value} {ls : List Fm} {p : List MemPlace}
    (h : DataW.trod enc Tryz.prog w base sp held fuel 115 cs = some (.agg (ls.map fmD), p)) : cs = ls.flatMap fmC := by
  have hct : Tryz.prog.cellsOf 115 = 80 := by kernel_rfl
  have hce : Tryz.prog.cellsOf 114 = 8 := by kernel_rfl
  have hc3 : Tryz.prog.cellsOf 21 = 1 := by kernel_rfl
  have hc8 : Tryz.prog.cellsOf 23 = 1 := by kernel_rfl
  have hc9 : Tryz.prog.cellsOf 24 = 1 := by kernel_rfl
  have hcb : Tryz.prog.cellsOf 4 = 1 := by kernel_rfl
  have hci : Tryz.prog.cellsOf 3 = 1 := by kernel_rfl
  obtain ⟨xs, m, _, hx, hl, hxl, hall⟩ := DataW.trod_array Tryz.underlying115 h
  rw [hce] at hall
  rw [hct] at hl
  have hxs : xs.map (·.1) = ls.map fun r => (fmD r : DataW H) := by
    have := congrArg Prod.fst hx
    simpa using this.symm
  have hll : ls.length = 10 := by
    have := congrArg List.length hxs
    simp at this
    omega
  have key : ∀ i, i < 10 → ∃ r, ls[i]? = some r ∧ (cs.drop (i * 8)).take 8 = fmC r := by
    intro i hi
    have hf := hall i hi
    obtain ⟨b, hb⟩ : ∃ b, xs[i]? = some b := ⟨xs[i], List.getElem?_eq_getElem (by omega)⟩
    rw [hb] at hf
    obtain ⟨ys, m', _, rfl, hcl, hyl, hfs⟩ := DataW.trod_struct Tryz.underlying114 hf
    rw [hce] at hcl
    obtain ⟨y0, y1, y2, y3, y4, y5, y6, y7, rfl⟩ : ∃ y0 y1 y2 y3 y4 y5 y6 y7, ys = [y0, y1, y2, y3, y4, y5, y6, y7] := by
      match ys, hyl with
      | [a, b, c, d, e, f, g, h], _ => exact ⟨a, b, c, d, e, f, g, h, rfl⟩
    have f0 := hfs 0 _ rfl
    have f1 := hfs 1 _ rfl
    have f2 := hfs 2 _ rfl
    have f3 := hfs 3 _ rfl
    have f4 := hfs 4 _ rfl
    have f5 := hfs 5 _ rfl
    have f6 := hfs 6 _ rfl
    have f7 := hfs 7 _ rfl
    simp [hc3, hc8, hc9, hcb, hci] at f0 f1 f2 f3 f4 f5 f6 f7
    obtain ⟨u0, c0, e0, _⟩ := DataW.trod_int Tryz.underlying21 f0
    obtain ⟨u1, c1, e1, _⟩ := DataW.trod_int Tryz.underlying21 f1
    obtain ⟨u2, c2, e2, _⟩ := DataW.trod_int Tryz.underlying23 f2
    obtain ⟨u3, c3, e3, _⟩ := DataW.trod_int Tryz.underlying23 f3
    obtain ⟨u4, c4, e4, _⟩ := DataW.trod_int Tryz.underlying24 f4
    obtain ⟨u5, c5, e5, _⟩ := DataW.trod_int Tryz.underlying24 f5
    obtain ⟨u6, c6, e6⟩ := DataW.trod_bool Tryz.underlying4 f6
    obtain ⟨u7, c7, e7, _⟩ := DataW.trod_int Tryz.underlying3 f7
    have h2 : (xs.map (·.1))[i]? = some (DataW.agg ([y0, y1, y2, y3, y4, y5, y6, y7].map (·.1)) : DataW H) := by simp [hb]
    rw [hxs] at h2
    simp only [List.getElem?_map, Option.map_eq_some_iff] at h2
    obtain ⟨r, hr, hr2⟩ := h2
    refine ⟨r, hr, ?_⟩
    simp [fmD, e0, e1, e2, e3, e4, e5, e6, e7] at hr2
    obtain ⟨g0, g1, g2, g3, g4, g5, g6, g7⟩ := hr2
    obtain ⟨zs, hz⟩ : ∃ zs, List.take 8 (List.drop (i * 8) cs) = zs := ⟨_, rfl⟩
    rw [hz] at c0 c1 c2 c3 c4 c5 c6 c7 hcl ⊢
    clear hz f0 f1 f2 f3 f4 f5 f6 f7 hfs hf hall
    match zs, hcl with
    | [a, b, c, d, e, f, g, h], _ =>
      simp at c0 c1 c2 c3 c4 c5 c6 c7
      subst c0 c1 c2 c3 c4 c5 c6 c7
      unfold fmC
      rw [g0, g1, g2, g3, g4, g5, g6, g7]
  apply List.ext_getElem?
  intro j
  by_cases hj : j < 80
  · obtain ⟨r, hr, hc⟩ := key (j / 8) (by omega)
    have hg : cs[j / 8 * 8 + j % 8]? = (fmC r)[j % 8]? := by
      have hq : j % 8 < 8 := Nat.mod_lt _ (by decide)
      have := congrArg (·[j % 8]?) hc
      rw [← this]
      simp [List.getElem?_drop, hq]
    have he : j / 8 * 8 + j % 8 = j := by omega
    have ha := fmC_at ls (j / 8) (j % 8) (by omega) (Nat.mod_lt _ (by decide))
    rw [he] at hg ha
    rw [hg, ha, show ls.getD (j / 8) (0, 0, 0, 0, 0, 0, false, 0) = r by rw [List.getD_eq_getElem?_getD, hr]; rfl]
  · rw [List.getElem?_eq_none (by omega), List.getElem?_eq_none]
    have hfl : ∀ l : List Fm, (l.flatMap fmC).length = l.length * 8 := by
      intro l
      induction l with
      | nil => rfl
      | cons x l ih => rw [List.flatMap_cons, List.length_append, ih, List.length_cons]; show 8 + _ = _; omega
    rw [hfl]
    omega
theorem laidF {H : Type} : (Rows.laid_transputer_expr_forms : DataW H) = .agg (fmT.map fmD) := by kernel_rfl
theorem ttF : (Tryz.prog.globals[0]?).map (·.type) = some 115 := by kernel_rfl
theorem f_of {W : World} {rest : List (String × DataW Unit)} (h : laidMet Tryz.prog (("transputer/expr.forms", Rows.laid_transputer_expr_forms) :: rest) W) : W.var? Tryz.prog "transputer/expr.forms" = some (fmT.flatMap fmC).toArray := by
  obtain ⟨ps, ⟨g', t', cs, fuel, p, q, hg', ht', hvar, hd, _, _⟩, _⟩ := h
  obtain rfl := Option.some.inj (gF.symm.trans hg')
  obtain rfl := Option.some.inj (ttF.symm.trans ht')
  rw [laidF] at hd
  have hc := cells_of_forms hd
  rw [hvar, ← hc]
theorem table_14 {W : World} (h : laidMet Tryz.prog [("transputer/expr.forms", Rows.laid_transputer_expr_forms)] W) : T10 W := ⟨f_of h⟩
end Go.Proofs.YtimbiobonigdmaaGreatDoor
