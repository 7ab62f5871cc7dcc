/- A specification is loaded whole, and laid whole. -/
import Derived.Test.YtimbiobonigdmaaDoorM15
set_option linter.unusedVariables false
set_option linter.unusedSimpArgs false
namespace Go.Proofs.YtimbiobonigdmaaDoor
open Go Go.RowKit L8 L10 L14

theorem spec_agg (X : World) : (isAgg 51).run Tryd.prog X = .ok true X := by kernel_rfl
theorem spec_size (X : World) : (sizeOf 51).run Tryd.prog X = .ok 16 X := by kernel_rfl
/-- Sixteen cells that stand in a row are loaded as one value. -/
theorem run_load16 {X : World} {p : Addr} {cs : List Value} (hl : cs.length = 16) (h : ∀ j v, cs[j]? = some v → X.cell? (p.add j) = some v) : (Instr.loadAt 51 (.pointer (some p))).run Tryd.prog X = .ok (.agg cs.toArray) X := by
  have := run_loadCells_list (P := Tryd.prog) X p cs h
  rw [hl] at this
  simp only [Instr.loadAt, Instr.sureAddr, loadVar, Sem.run_bind, Sem.run_pure, Result.andThen, spec_agg, spec_size, if_true, this]
theorem box_row {X : World} {q : Nat} {x : Sp} {N B : Option Addr} {c d : Nat} (h : BoxS X q 51 (spC x N c B d)) : ∀ j v, (spC x N c B d).toList[j]? = some v → X.cell? ((⟨q, 0, none⟩ : Addr).add j) = some v := fun j v hj => by
  rw [add_plain, Nat.zero_add, h.cell j, ← Array.getElem?_toList]
  exact hj
set_option maxRecDepth 10000 in
theorem wp_load16 {w : World} {ops : Array Oper} {rest : List Oper} {o : Oper} {a : Act} {Q : Exit → Act → World → Prop} (hgd : o.guard = none) (y : Operand) (ho : o.op = .load 51 y) (p : Addr) (hp : a.eval y = .pointer (some p)) (cs : List Value) (hl : cs.length = 16) (hc : ∀ j v, cs[j]? = some v → w.cell? (p.add j) = some v)
    (h : wpList Tryd.prog ops Q rest (a.put o.dst (.agg cs.toArray)) w) : wpList Tryd.prog ops Q (o :: rest) a w := by
  refine wpList_plain hgd fun K hK => ?_
  unfold Oper.wp execOp
  have hr := run_load16 hl hc
  simp only [ho, resolve, Sem.run_bind, Sem.run_pure, Result.andThen_ok, hp, hr]
  exact hK _ _ h
end Go.Proofs.YtimbiobonigdmaaDoor
