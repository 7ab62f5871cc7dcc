/- Calls that came in, one by value or many in a slice: what their cells hold. -/
import Derived.Test.YtjdinppblejcdaaLawsB
import Derived.Deep.Slices
import Derived.ChangeSame
namespace Go.Proofs.Ytjdinppblejcdaa
open Go Go.RowKit Go.ChangeShapes Go.WideShapes Go.Deep Go.ChangeAt

/-- The six cells of a call. -/
def IsOp (w : World) (cs : List Value) : Prop := ∃ (q a b v n : Int) (B : Option Addr) (d : Nat) (ys : List Nat), cs = (opc q a b v n B ys.length d).toList ∧ (0 ≤ q ∧ q < 256) ∧ isW a ∧ isW b ∧ isW v ∧ n < 9223372036854775808 ∧ RS w B d ys ∧
  (0 < ys.length → ∀ ad, B = some ad → ad.block < w.heap.size)
theorem int_lt {n : Int} (h : (Lit.int .i64 n).wf = true) : n < 9223372036854775808 := by
  simp only [Lit.wf, IntKind.min, IntKind.max, IntKind.signed, IntKind.bits, Bool.and_eq_true] at h
  have h2 := h.2
  simp at h2
  omega
section
variable {H : Type} {enc : TypeId × Value → H} {w : World}
theorem open_op {fuel : Nat} {cs : List Value} {x : DataW H × List MemPlace} (h : DataW.trod enc Try.prog w 0 (fun _ => true) true fuel 34 cs = some x) : IsOp w cs := by
  obtain ⟨xs, n, _, _, hl, hlen, hf⟩ := DataW.trod_struct Try.underlying34 h
  have kl : Try.prog.cellsOf 34 = 6 := by kernel_rfl
  have k5 : Try.prog.cellsOf 5 = 1 := by kernel_rfl
  have k21 : Try.prog.cellsOf 21 = 1 := by kernel_rfl
  have k3 : Try.prog.cellsOf 3 = 1 := by kernel_rfl
  have k30 : Try.prog.cellsOf 30 = 1 := by kernel_rfl
  rw [kl] at hl
  match cs, hl with
  | [c0, c1, c2, c3, c4, c5], _ =>
    match xs, hlen with
    | [y0, y1, y2, y3, y4, y5], _ =>
      have f0 := hf 0 _ rfl
      have f1 := hf 1 _ rfl
      have f2 := hf 2 _ rfl
      have f3 := hf 3 _ rfl
      have f4 := hf 4 _ rfl
      have f5 := hf 5 _ rfl
      simp [k5, k21, k3, k30] at f0 f1 f2 f3 f4 f5
      obtain ⟨q, e0, _, w0⟩ := DataW.trod_int Try.underlying5 f0
      obtain ⟨a, e1, _, w1⟩ := DataW.trod_int Try.underlying21 f1
      obtain ⟨b, e2, _, w2⟩ := DataW.trod_int Try.underlying21 f2
      obtain ⟨v, e3, _, w3⟩ := DataW.trod_int Try.underlying21 f3
      obtain ⟨m, e4, _, w4⟩ := DataW.trod_int Try.underlying3 f4
      have hc : ∃ B l d zs, c5 = .slice B l d ∧ Came w B l d zs := by
        rcases open_ints Try.underlying30 Try.underlying5 k5 f5 with ⟨e, _⟩ | ⟨z, l, d, zs, e, _, hl, hm, hz, _, hcell, hwz⟩
        · exact ⟨none, 0, 0, [], by simpa using e, .inl ⟨rfl, rfl, rfl, rfl⟩⟩
        · exact ⟨some z, l, d, zs, by simpa using e, .inr ⟨z, rfl, hl, hm, by simpa using hz, hcell, hwz⟩⟩
      obtain ⟨B, l, d, zs, e5, hC⟩ := hc
      obtain ⟨ys, rfl, R, hlt⟩ := hC.rs
      injection e0 with e0
      injection e1 with e1
      injection e2 with e2
      injection e3 with e3
      injection e4 with e4
      subst e0 e1 e2 e3 e4 e5
      exact ⟨q, a, b, v, m, B, d, ys, rfl, byte_of_wf w0, isW_of_wf w1, isW_of_wf w2, isW_of_wf w3, int_lt w4, R, fun h0 ad e => hlt ad e (by have := R.le; omega)⟩
/-- Many calls that came in: element i lies from cell 6 i on. -/
def IsOps (w : World) (A : Option Addr) (len : Nat) : Prop := ∀ i, i < len → ∃ ad cs, A = some ad ∧ IsOp w cs ∧ ad.block < w.heap.size ∧ ∀ j, j < 6 → w.cell? ((ad.add (i * 6)).add j) = cs[j]?
theorem open_ops {fuel : Nat} {A : Option Addr} {len cap : Nat} {x : DataW H × List MemPlace} (h : DataW.trod enc Try.prog w 0 (fun _ => true) true fuel 22 [.slice A len cap] = some x) : IsOps w A len ∧ len ≤ maxLen := by
  have kl : Try.prog.cellsOf 34 = 6 := by kernel_rfl
  rcases open_slice Try.underlying22 h with ⟨e, _⟩ | ⟨a, l, c, m, n, D, Pl, e, _, hl, hm, hmm, _, hi⟩
  · injection e with e _
    injection e with e1 e2 e3
    subst e2
    exact ⟨fun i hi => absurd hi (by omega), by simp [maxLen]⟩
  · injection e with e _
    injection e with e1 e2 e3
    subst e1 e2 e3
    refine ⟨fun i him => ?_, by omega⟩
    obtain ⟨cs, hc, ht⟩ := hi i (by simp at hmm; omega)
    rw [kl] at hc
    obtain ⟨_, hcl, hat⟩ := World.cells?_some hc
    have hO := open_op ht
    have hcell : ∀ j, j < 6 → w.cell? ((a.add (i * 6)).add j) = cs[j]? := fun j hj => hat j hj
    refine ⟨a, cs, rfl, hO, ?_, hcell⟩
    obtain ⟨q, a', b, v, n', B, d, ys, rfl, _⟩ := hO
    have := lt_of_cell (hcell 0 (by omega))
    rwa [add_block, add_block] at this
end
end Go.Proofs.Ytjdinppblejcdaa
