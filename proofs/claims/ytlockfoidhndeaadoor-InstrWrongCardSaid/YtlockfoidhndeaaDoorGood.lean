/- What the rows list is what the walks lean on. -/
import Derived.Test.YtlockfoidhndeaaDoorLawsA
namespace Go.Proofs.YtlockfoidhndeaaDoor
open Go Go.RowKit

theorem laidF {H : Type} : (Rows.laid_transputer_instr_functions : DataW H) = .agg (fnT.map fun r => .agg [.lit (.string r.1), .lit (.int .i64 r.2.1), .lit (.int .i64 r.2.2)]) := by kernel_rfl
theorem laidO {H : Type} : (Rows.laid_transputer_instr_operationNames : DataW H) = .agg ((opT.map (·.1)).map fun l => .lit (.string l)) := by kernel_rfl
theorem tF : (Tryd.prog.globals[0]?).map (·.type) = some 82 := by kernel_rfl
theorem tO : (Tryd.prog.globals[1]?).map (·.type) = some 83 := by kernel_rfl
theorem ft_of {W : World} {rest : List (String × DataW Unit)} (h : laidMet Tryd.prog (("transputer/instr.functions", Rows.laid_transputer_instr_functions) :: rest) W) : FT W := by
  obtain ⟨ps, ⟨g', t', cs, fuel, p, q, hg', ht', hvar, hd, _, _⟩, _⟩ := h
  obtain rfl := Option.some.inj (gF.symm.trans hg')
  obtain rfl := Option.some.inj (tF.symm.trans ht')
  rw [laidF] at hd
  have hc := cells_of_rows (by kernel_rfl) (by kernel_rfl) (by kernel_rfl) (by kernel_rfl) hd
  unfold FT
  rw [hvar, ← hc]
theorem ot_of {W : World} {rest : List (String × DataW Unit)} (h : laidMet Tryd.prog (("transputer/instr.operationNames", Rows.laid_transputer_instr_operationNames) :: rest) W) : OT W := by
  obtain ⟨ps, ⟨g', t', cs, fuel, p, q, hg', ht', hvar, hd, _, _⟩, _⟩ := h
  obtain rfl := Option.some.inj (gO.symm.trans hg')
  obtain rfl := Option.some.inj (tO.symm.trans ht')
  rw [laidO] at hd
  have hc := cells_of_strs Tryd.underlying83 Tryd.underlying9 (by kernel_rfl) (by kernel_rfl) hd
  unfold OT
  rw [hvar]
  have : cs.toList = opT.map fun r => Value.string (strOf r.1) := by rw [hc, List.map_map]; rfl
  rw [← this]
theorem gTab : Tryd.prog.globalNamed "internal/strconv.uint64pow10" = some 6 := by kernel_rfl
theorem gTabType : (Tryd.prog.globals[6]?).map (·.type) = some 137 := by kernel_rfl
theorem cellsTab : Tryd.prog.cellsOf 137 = 20 := by kernel_rfl
theorem cellsNum : Tryd.prog.cellsOf 126 = 1 := by kernel_rfl
theorem tab_of {W : World} {rest : List (String × DataW Unit)} (h : laidMet Tryd.prog (("internal/strconv.uint64pow10", Rows.laid_internal_strconv_uint64pow10) :: rest) W) : Tab W :=
  Lib.tabIs_of_head (zs := Lib.pow10Tab) (rest := rest) gTab gTabType Tryd.underlying137 Tryd.underlying126 cellsNum cellsTab h
theorem table_a {W : World} (h : laidMet Tryd.prog [("math/bits.deBruijn32tab", Rows.laid_math_bits_deBruijn32tab), ("math/bits.deBruijn64tab", Rows.laid_math_bits_deBruijn64tab), ("internal/strconv.uint64pow10", Rows.laid_internal_strconv_uint64pow10), ("transputer/instr.functions", Rows.laid_transputer_instr_functions), ("transputer/instr.operationNames", Rows.laid_transputer_instr_operationNames)] W) : Good W :=
  ⟨⟨ft_of h.tail.tail.tail, ot_of h.tail.tail.tail.tail⟩, tab_of h.tail.tail⟩
set_option maxRecDepth 100000 in
/-- An instruction that came in. -/
theorem open_inst {H : Type} {enc : TypeId × Value → H} {w : World} {fuel : Nat} {cs : List Value} {x : DataW H × List MemPlace} (h : DataW.trod enc Tryd.prog w 0 (fun _ => true) true fuel 23 cs = some x) :
    ∃ f b, cs = [.int .u8 f, .int .i32 b] ∧ (Lit.int .u8 f).wf = true ∧ (Lit.int .i32 b).wf = true := by
  obtain ⟨xs, n, _, _, hl, hlen, hf⟩ := DataW.trod_struct Tryd.underlying23 h
  have kl : Tryd.prog.cellsOf 23 = 2 := by kernel_rfl
  have k5 : Tryd.prog.cellsOf 5 = 1 := by kernel_rfl
  have k21 : Tryd.prog.cellsOf 21 = 1 := by kernel_rfl
  rw [kl] at hl
  match cs, hl with
  | [c0, c1], _ =>
    match xs, hlen with
    | [y0, y1], _ =>
      have f0 := hf 0 _ rfl
      have f1 := hf 1 _ rfl
      simp [k5, k21] at f0 f1
      obtain ⟨q, e0, _, w0⟩ := DataW.trod_int Tryd.underlying5 f0
      obtain ⟨a, e1, _, w1⟩ := DataW.trod_int Tryd.underlying21 f1
      injection e0 with e0
      injection e1 with e1
      exact ⟨q, a, by rw [e0, e1], w0, w1⟩
end Go.Proofs.YtlockfoidhndeaaDoor
