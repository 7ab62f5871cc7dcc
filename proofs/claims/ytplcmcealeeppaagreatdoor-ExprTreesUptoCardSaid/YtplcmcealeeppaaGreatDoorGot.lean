/- What the rows list, as the laws take it; lines of tokens that came in. -/
import Derived.Test.YtplcmcealeeppaaGreatDoorM22
import Derived.Test.YtplcmcealeeppaaGreatDoorM23
import Derived.Test.YtplcmcealeeppaaGreatDoorM24
import Derived.Test.YtplcmcealeeppaaGreatDoorRows
import Derived.Lib.LaidTab
import Derived.Stop.LaidErr
import Derived.LaidMore
import Derived.Deep.Slices
import Derived.ChangeSame
set_option linter.unusedVariables false
set_option linter.unusedSimpArgs false
set_option linter.unusedVariables false
set_option linter.unusedSimpArgs false
namespace Go.Proofs.YtplcmcealeeppaaGreatDoor
open Go Go.RowKit Go.ChangeShapes Go.WideShapes Go.Deep Go.ChangeAt L8 L10

/-- An array of strings that reads as these texts holds them, cell for cell. -/
theorem cells_of_strs {H : Type} {enc : TypeId × Value → H} {P : Program} {w : World} {base : Nat} {sp : Nat → Bool} {held : Bool} {fuel : Nat} {t e : TypeId} {n : Nat} {cs : List Value} {ls : List (List UInt8)} {p : List MemPlace}
    (ht : P.underlying t = some (.array n e)) (he : P.underlying e = some .string) (hce : P.cellsOf e = 1) (hct : P.cellsOf t = n)
    (h : DataW.trod enc P w base sp held fuel t cs = some (.agg (ls.map fun l => .lit (.string l)), p)) : cs = ls.map fun l => Value.string (strOf l) := by
  obtain ⟨xs, m, _, hx, hl, hxl, hall⟩ := DataW.trod_array ht h
  rw [hce] at hall
  have hxs : xs.map (·.1) = ls.map fun l => (DataW.lit (.string l) : DataW H) := by
    have := congrArg Prod.fst hx
    simpa using this.symm
  have hll : ls.length = n := by
    have := congrArg List.length hxs
    simp at this
    omega
  apply List.ext_getElem?
  intro i
  by_cases hi : i < n
  · have hf := hall i hi
    obtain ⟨b, hb⟩ : ∃ b, xs[i]? = some b := ⟨xs[i], List.getElem?_eq_getElem (by omega)⟩
    rw [hb] at hf
    obtain ⟨s, hc, rfl, _⟩ := DataW.trod_string he hf
    have h1 : cs[i]? = some (.string s) := by
      have := congrArg (·[0]?) hc
      simpa [List.getElem?_take, List.getElem?_drop] using this
    have h2 : (xs.map (·.1))[i]? = some (DataW.lit (.string s.data.toList) : DataW H) := by simp [hb]
    rw [hxs] at h2
    simp only [List.getElem?_map, Option.map_eq_some_iff, DataW.lit.injEq, Lit.string.injEq] at h2
    obtain ⟨z, hz, rfl⟩ := h2
    simp [h1, hz, strOf]
  · rw [List.getElem?_eq_none (by omega), List.getElem?_eq_none (by simp; omega)]
abbrev Fm : Type := Int × Int × Nat × Nat × Nat × Nat × Bool × Nat
def fmD {H : Type} (r : Fm) : DataW H := .agg [.lit (.int .i32 r.1), .lit (.int .i32 r.2.1), .lit (.int .u8 (r.2.2.1 : Int)), .lit (.int .u8 (r.2.2.2.1 : Int)), .lit (.int .u8 (r.2.2.2.2.1 : Int)), .lit (.int .u8 (r.2.2.2.2.2.1 : Int)), .lit (.bool r.2.2.2.2.2.2.1), .lit (.int .i64 (r.2.2.2.2.2.2.2 : Int))]
/-- An array of rows of eight cells that reads as these rows holds them. -/
theorem cells_of_forms {H : Type} {enc : TypeId × Value → H} {w : World} {base : Nat} {sp : Nat → Bool} {held : Bool} {fuel : Nat} {cs : List Value} {ls : List Fm} {p : List MemPlace}
    (h : DataW.trod enc Tryz.prog w base sp held fuel 120 cs = some (.agg (ls.map fmD), p)) : cs = ls.flatMap fmC := by
  have hct : Tryz.prog.cellsOf 120 = 80 := by kernel_rfl
  have hce : Tryz.prog.cellsOf 119 = 8 := by kernel_rfl
  have hc3 : Tryz.prog.cellsOf 21 = 1 := by kernel_rfl
  have hc8 : Tryz.prog.cellsOf 23 = 1 := by kernel_rfl
  have hc9 : Tryz.prog.cellsOf 24 = 1 := by kernel_rfl
  have hcb : Tryz.prog.cellsOf 4 = 1 := by kernel_rfl
  have hci : Tryz.prog.cellsOf 3 = 1 := by kernel_rfl
  obtain ⟨xs, m, _, hx, hl, hxl, hall⟩ := DataW.trod_array Tryz.underlying120 h
  rw [hce] at hall
  rw [hct] at hl
  have hxs : xs.map (·.1) = ls.map fun r => (fmD r : DataW H) := by
    have := congrArg Prod.fst hx
    simpa using this.symm
  have hll : ls.length = 10 := by
    have := congrArg List.length hxs
    simp at this
    omega
  have key : ∀ i, i < 10 → ∃ r, ls[i]? = some r ∧ (cs.drop (i * 8)).take 8 = fmC r := by
    intro i hi
    have hf := hall i hi
    obtain ⟨b, hb⟩ : ∃ b, xs[i]? = some b := ⟨xs[i], List.getElem?_eq_getElem (by omega)⟩
    rw [hb] at hf
    obtain ⟨ys, m', _, rfl, hcl, hyl, hfs⟩ := DataW.trod_struct Tryz.underlying119 hf
    rw [hce] at hcl
    obtain ⟨y0, y1, y2, y3, y4, y5, y6, y7, rfl⟩ : ∃ y0 y1 y2 y3 y4 y5 y6 y7, ys = [y0, y1, y2, y3, y4, y5, y6, y7] := by
      match ys, hyl with
      | [a, b, c, d, e, f, g, h], _ => exact ⟨a, b, c, d, e, f, g, h, rfl⟩
    have f0 := hfs 0 _ rfl
    have f1 := hfs 1 _ rfl
    have f2 := hfs 2 _ rfl
    have f3 := hfs 3 _ rfl
    have f4 := hfs 4 _ rfl
    have f5 := hfs 5 _ rfl
    have f6 := hfs 6 _ rfl
    have f7 := hfs 7 _ rfl
    simp [hc3, hc8, hc9, hcb, hci] at f0 f1 f2 f3 f4 f5 f6 f7
    obtain ⟨u0, c0, e0, _⟩ := DataW.trod_int Tryz.underlying21 f0
    obtain ⟨u1, c1, e1, _⟩ := DataW.trod_int Tryz.underlying21 f1
    obtain ⟨u2, c2, e2, _⟩ := DataW.trod_int Tryz.underlying23 f2
    obtain ⟨u3, c3, e3, _⟩ := DataW.trod_int Tryz.underlying23 f3
    obtain ⟨u4, c4, e4, _⟩ := DataW.trod_int Tryz.underlying24 f4
    obtain ⟨u5, c5, e5, _⟩ := DataW.trod_int Tryz.underlying24 f5
    obtain ⟨u6, c6, e6⟩ := DataW.trod_bool Tryz.underlying4 f6
    obtain ⟨u7, c7, e7, _⟩ := DataW.trod_int Tryz.underlying3 f7
    have h2 : (xs.map (·.1))[i]? = some (DataW.agg ([y0, y1, y2, y3, y4, y5, y6, y7].map (·.1)) : DataW H) := by simp [hb]
    rw [hxs] at h2
    simp only [List.getElem?_map, Option.map_eq_some_iff] at h2
    obtain ⟨r, hr, hr2⟩ := h2
    refine ⟨r, hr, ?_⟩
    simp [fmD, e0, e1, e2, e3, e4, e5, e6, e7] at hr2
    obtain ⟨g0, g1, g2, g3, g4, g5, g6, g7⟩ := hr2
    obtain ⟨zs, hz⟩ : ∃ zs, List.take 8 (List.drop (i * 8) cs) = zs := ⟨_, rfl⟩
    rw [hz] at c0 c1 c2 c3 c4 c5 c6 c7 hcl ⊢
    clear hz f0 f1 f2 f3 f4 f5 f6 f7 hfs hf hall
    match zs, hcl with
    | [a, b, c, d, e, f, g, h], _ =>
      simp at c0 c1 c2 c3 c4 c5 c6 c7
      subst c0 c1 c2 c3 c4 c5 c6 c7
      unfold fmC
      rw [g0, g1, g2, g3, g4, g5, g6, g7]
  apply List.ext_getElem?
  intro j
  by_cases hj : j < 80
  · obtain ⟨r, hr, hc⟩ := key (j / 8) (by omega)
    have hg : cs[j / 8 * 8 + j % 8]? = (fmC r)[j % 8]? := by
      have hq : j % 8 < 8 := Nat.mod_lt _ (by decide)
      have := congrArg (·[j % 8]?) hc
      rw [← this]
      simp [List.getElem?_drop, hq]
    have he : j / 8 * 8 + j % 8 = j := by omega
    have ha := fmC_at ls (j / 8) (j % 8) (by omega) (Nat.mod_lt _ (by decide))
    rw [he] at hg ha
    rw [hg, ha, show ls.getD (j / 8) (0, 0, 0, 0, 0, 0, false, 0) = r by rw [List.getD_eq_getElem?_getD, hr]; rfl]
  · rw [List.getElem?_eq_none (by omega), List.getElem?_eq_none]
    have hfl : ∀ l : List Fm, (l.flatMap fmC).length = l.length * 8 := by
      intro l
      induction l with
      | nil => rfl
      | cons x l ih => rw [List.flatMap_cons, List.length_append, ih, List.length_cons]; show 8 + _ = _; omega
    rw [hfl]
    omega
theorem laidF {H : Type} : (Rows.laid_transputer_expr_forms : DataW H) = .agg (fmT.map fmD) := by kernel_rfl
theorem laidO {H : Type} : (Rows.laid_transputer_expr_operatorWords : DataW H) = .agg (opsT.map fun l => .lit (.string l)) := by kernel_rfl
theorem laidW {H : Type} : (Rows.laid_transputer_expr_typeWords : DataW H) = .agg (wdT.map fun l => .lit (.string l)) := by kernel_rfl
theorem laidB {H : Type} : (Rows.laid_transputer_expr_truthWords : DataW H) = .agg (trT.map fun l => .lit (.string l)) := by kernel_rfl
theorem ttF : (Tryz.prog.globals[3]?).map (·.type) = some 120 := by kernel_rfl
theorem ttO : (Tryz.prog.globals[0]?).map (·.type) = some 62 := by kernel_rfl
theorem ttW : (Tryz.prog.globals[2]?).map (·.type) = some 108 := by kernel_rfl
theorem ttB : (Tryz.prog.globals[1]?).map (·.type) = some 107 := by kernel_rfl
theorem f_of {W : World} {rest : List (String × DataW Unit)} (h : laidMet Tryz.prog (("transputer/expr.forms", Rows.laid_transputer_expr_forms) :: rest) W) : W.var? Tryz.prog "transputer/expr.forms" = some (fmT.flatMap fmC).toArray := by
  obtain ⟨ps, ⟨g', t', cs, fuel, p, q, hg', ht', hvar, hd, _, _⟩, _⟩ := h
  obtain rfl := Option.some.inj (gF.symm.trans hg')
  obtain rfl := Option.some.inj (ttF.symm.trans ht')
  rw [laidF] at hd
  have hc := cells_of_forms hd
  rw [hvar, ← hc]
theorem o_of {W : World} {rest : List (String × DataW Unit)} (h : laidMet Tryz.prog (("transputer/expr.operatorWords", Rows.laid_transputer_expr_operatorWords) :: rest) W) : W.var? Tryz.prog "transputer/expr.operatorWords" = some (sC opsT).toArray := by
  obtain ⟨ps, ⟨g', t', cs, fuel, p, q, hg', ht', hvar, hd, _, _⟩, _⟩ := h
  obtain rfl := Option.some.inj (gO.symm.trans hg')
  obtain rfl := Option.some.inj (ttO.symm.trans ht')
  rw [laidO] at hd
  have hc := cells_of_strs Tryz.underlying62 Tryz.underlying9 (by kernel_rfl) (by kernel_rfl) hd
  rw [hvar, show (sC opsT) = cs.toList from hc.symm]
theorem w_of {W : World} {rest : List (String × DataW Unit)} (h : laidMet Tryz.prog (("transputer/expr.typeWords", Rows.laid_transputer_expr_typeWords) :: rest) W) : W.var? Tryz.prog "transputer/expr.typeWords" = some (sC wdT).toArray := by
  obtain ⟨ps, ⟨g', t', cs, fuel, p, q, hg', ht', hvar, hd, _, _⟩, _⟩ := h
  obtain rfl := Option.some.inj (gT.symm.trans hg')
  obtain rfl := Option.some.inj (ttW.symm.trans ht')
  rw [laidW] at hd
  have hc := cells_of_strs Tryz.underlying108 Tryz.underlying9 (by kernel_rfl) (by kernel_rfl) hd
  rw [hvar, show (sC wdT) = cs.toList from hc.symm]
theorem b_of {W : World} {rest : List (String × DataW Unit)} (h : laidMet Tryz.prog (("transputer/expr.truthWords", Rows.laid_transputer_expr_truthWords) :: rest) W) : W.var? Tryz.prog "transputer/expr.truthWords" = some (sC trT).toArray := by
  obtain ⟨ps, ⟨g', t', cs, fuel, p, q, hg', ht', hvar, hd, _, _⟩, _⟩ := h
  obtain rfl := Option.some.inj (gB.symm.trans hg')
  obtain rfl := Option.some.inj (ttB.symm.trans ht')
  rw [laidB] at hd
  have hc := cells_of_strs Tryz.underlying107 Tryz.underlying9 (by kernel_rfl) (by kernel_rfl) hd
  rw [hvar, show (sC trT) = cs.toList from hc.symm]
theorem table_x {W : World} (h : laidMet Tryz.prog [("math/bits.deBruijn32tab", Rows.laid_math_bits_deBruijn32tab), ("math/bits.deBruijn64tab", Rows.laid_math_bits_deBruijn64tab), ("internal/strconv.uint64pow10", Rows.laid_internal_strconv_uint64pow10), ("unicode/utf8.acceptRanges", Rows.laid_unicode_utf8_acceptRanges), ("transputer/expr.forms", Rows.laid_transputer_expr_forms), ("transputer/expr.operatorWords", Rows.laid_transputer_expr_operatorWords), ("transputer/expr.typeWords", Rows.laid_transputer_expr_typeWords), ("transputer/expr.truthWords", Rows.laid_transputer_expr_truthWords), ("unicode/utf8.first", Rows.laid_unicode_utf8_first)] W) : T10 W ∧ W1.Tab W :=
  ⟨⟨f_of h.tail.tail.tail.tail, o_of h.tail.tail.tail.tail.tail, w_of h.tail.tail.tail.tail.tail.tail, b_of h.tail.tail.tail.tail.tail.tail.tail⟩, tab_of h.tail.tail⟩
def IsTk (w : World) (A : Option Addr) (n c : Nat) : Prop := IsTx w A n c
theorem open_toks9 {H : Type} {enc : TypeId × Value → H} {w : World} {fuel : Nat} {A : Option Addr} {len cap : Nat} {x : DataW H × List MemPlace} (h : DataW.trod enc Tryz.prog w 0 (fun _ => true) true fuel 39 [.slice A len cap] = some x) : IsTk w A len cap := open_toks h
theorem rowExprTrees (a0 : Ex) (A : Option Addr) (c : Nat) (ok : OKe a0) (a1 : Ex) (B : Option Addr) (d : Nat) (ok1 : OKe a1) (a2 : Int) (w2 : (Lit.int .u8 a2).wf = true) (w : World) (R : TrR w A c a0.l) (Q : TrR w B d a1.l) (z0 : szE a0 ≤ 149796) (z1 : szE a1 ≤ 149796) (h : T10 w ∧ W1.Tab w) :
    Calls Tryz.prog 3 #[.agg (itC ⟨a0, A, c⟩).toArray, .agg (itC ⟨a1, B, d⟩).toArray, .int .u8 a2] w fun e w' => e = .returned (.bool true) ∧ Below w.heap.size w w' := by
  have ha := u8_wfX w2
  obtain ⟨o, rfl⟩ : ∃ o : Nat, a2 = (o : Int) := ⟨a2.toNat, by omega⟩
  exact walkExprTrees a0 A a0.l.length c rfl ok a1 B a1.l.length d rfl ok1 o (by omega) w R Q h.1 h.2 z0 z1
theorem rowExprWrites (a0 : Ex) (A : Option Addr) (c : Nat) (ok : OKe a0) (w : World) (R : TrR w A c a0.l) (h : T10 w ∧ W1.Tab w) :
    Calls Tryz.prog 4 #[.agg (itC ⟨a0, A, c⟩).toArray] w fun e w' => e = .returned (.bool true) ∧ Below w.heap.size w w' := walkExprWrites a0 A a0.l.length c rfl ok w R h.1 h.2
theorem rowExprText (a0 : Ex) (A : Option Addr) (c : Nat) (ok : OKe a0) (w : World) (R : TrR w A c a0.l) (h : T10 w ∧ W1.Tab w) :
    Calls Tryz.prog 6 #[.agg (itC ⟨a0, A, c⟩).toArray] w fun e w' => e = .returned (.bool true) ∧ Below w.heap.size w w' := walkExprText a0 A a0.l.length c rfl ok w R h.1 h.2
theorem rowExprBack (a0 : Ex) (A : Option Addr) (c : Nat) (ok : OKe a0) (a1 : Option Addr) (len1 cap1 : Nat) (w : World) (R : TrR w A c a0.l) (w1 : IsTk w a1 len1 cap1) (h : T10 w ∧ W1.Tab w) :
    Calls Tryz.prog 5 #[.agg (itC ⟨a0, A, c⟩).toArray, .slice a1 len1 cap1] w fun e w' => e = .returned (.bool true) ∧ Below w.heap.size w w' := walkExprBack a0 A a0.l.length c rfl ok a1 len1 cap1 w R w1 h.1 h.2
theorem rowExprAgain (a0 : Option Addr) (len0 cap0 : Nat) (w : World) (w0 : IsTk w a0 len0 cap0) (h : T10 w ∧ W1.Tab w) :
    Calls Tryz.prog 7 #[.slice a0 len0 cap0] w fun e w' => e = .returned (.bool true) ∧ Below w.heap.size w w' := walkExprAgain a0 len0 cap0 w w0 h.1 h.2
end Go.Proofs.YtplcmcealeeppaaGreatDoor
