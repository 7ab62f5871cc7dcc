/- A valid instruction made of any one; instructions that came in. -/
import Derived.Test.YtiblicpaeogihaaLawsA
import Derived.Deep.Slices
import Derived.ChangeSame
namespace Go.Proofs.Ytiblicpaeogihaa
open Go Go.RowKit Go.ChangeShapes Go.WideShapes Go.Deep Go.ChangeAt

def fx (f : Nat) : Nat := if f % 16 = 2 ∨ f % 16 = 6 then f % 16 + 1 else f % 16
theorem fx_valid (f : Nat) : valid (fx f) = true := by unfold fx valid; split <;> simp <;> omega
theorem fix_any (f : Nat) (v : Int) (w : World) : Calls Try.prog 25 #[.agg #[.int .u8 (f : Int), .int .i32 v]] w fun e w' => e = .returned (.agg #[.int .u8 (fx f : Nat), .int .i32 v]) ∧ w.grownBy w' none := by
  obtain ⟨d, hd⟩ : ∃ d, d = f % 16 := ⟨_, rfl⟩
  have E : (f : Int) % 16 = (d : Int) := by omega
  have H : fx f = if d = 2 ∨ d = 6 then d + 1 else d := by unfold fx; rw [hd]
  rw [H]
  have hl : d < 16 := by omega
  clear hd H
  by_cases h2 : d = 2
  · subst h2
    go_enter Try.func25, Try.ntmps25
    go_wp2
    refine bodyPost_ret (v := .agg #[.int .u8 3, .int .i32 v]) ?_ rfl ⟨rfl, ?_⟩
    · simp [results, Try.results25, go_sem]
    · exact g_trans (World.grownBy_alloc w _ none) (World.grownBy_alloc _ _ none)
  · by_cases h6 : d = 6
    · subst h6
      go_enter Try.func25, Try.ntmps25
      go_wp2
      refine bodyPost_ret (v := .agg #[.int .u8 7, .int .i32 v]) ?_ rfl ⟨rfl, ?_⟩
      · simp [results, Try.results25, go_sem]
      · exact g_trans (World.grownBy_alloc w _ none) (World.grownBy_alloc _ _ none)
    · rw [if_neg (by omega)]
      have g2 : ((d : Int) == 2) = false := by simp; omega
      have g6 : ((d : Int) == 6) = false := by simp; omega
      go_enter Try.func25, Try.ntmps25
      go_wp2
      refine bodyPost_ret (v := .agg #[.int .u8 (d : Int), .int .i32 v]) ?_ rfl ⟨rfl, ?_⟩
      · simp [results, Try.results25, go_sem]
      · exact g_trans (World.grownBy_alloc w _ none) (World.grownBy_alloc _ _ none)
/-- The two cells of an instruction. -/
def IsIns (cs : List Value) (f : Nat) (v : Int) : Prop := cs = [.int .u8 (f : Int), .int .i32 v] ∧ f < 256 ∧ isW v
def IsI (_ : World) (cs : List Value) : Prop := ∃ f v, IsIns cs f v
section
variable {H : Type} {enc : TypeId × Value → H} {w : World}
theorem open_ins {fuel : Nat} {cs : List Value} {x : DataW H × List MemPlace} (h : DataW.trod enc Try.prog w 0 (fun _ => true) true fuel 23 cs = some x) : IsI w cs := by
  obtain ⟨xs, n, _, _, hl, hlen, hf⟩ := DataW.trod_struct Try.underlying23 h
  have kl : Try.prog.cellsOf 23 = 2 := by kernel_rfl
  have k5 : Try.prog.cellsOf 5 = 1 := by kernel_rfl
  have k21 : Try.prog.cellsOf 21 = 1 := by kernel_rfl
  rw [kl] at hl
  match cs, hl with
  | [c0, c1], _ =>
    match xs, hlen with
    | [y0, y1], _ =>
      have f0 := hf 0 _ rfl
      have f1 := hf 1 _ rfl
      simp [k5, k21] at f0 f1
      obtain ⟨q, e0, _, w0⟩ := DataW.trod_int Try.underlying5 f0
      obtain ⟨a, e1, _, w1⟩ := DataW.trod_int Try.underlying21 f1
      injection e0 with e0
      injection e1 with e1
      subst e0 e1
      have := byte_of_wf w0
      obtain ⟨f, rfl⟩ := Int.eq_ofNat_of_zero_le this.1
      exact ⟨f, a, rfl, by omega, isW_of_wf w1⟩
/-- Many instructions that came in: element i lies from cell 2 i on. -/
def IsIs (w : World) (A : Option Addr) (len : Nat) : Prop := ∀ i, i < len → ∃ ad cs, A = some ad ∧ IsI w cs ∧ ad.block < w.heap.size ∧ ∀ j, j < 2 → w.cell? ((ad.add (i * 2)).add j) = cs[j]?
theorem open_inss {fuel : Nat} {A : Option Addr} {len cap : Nat} {x : DataW H × List MemPlace} (h : DataW.trod enc Try.prog w 0 (fun _ => true) true fuel 43 [.slice A len cap] = some x) : IsIs w A len ∧ len ≤ cap ∧ cap ≤ maxLen := by
  have kl : Try.prog.cellsOf 23 = 2 := by kernel_rfl
  rcases open_slice Try.underlying43 h with ⟨e, _⟩ | ⟨a, l, c, m, n, D, Pl, e, _, hl, hm, hmm, _, hi⟩
  · injection e with e _
    injection e with e1 e2 e3
    subst e2 e3
    exact ⟨fun i hi => absurd hi (by omega), by simp, by simp [maxLen]⟩
  · injection e with e _
    injection e with e1 e2 e3
    subst e1 e2 e3
    refine ⟨fun i him => ?_, hl, by omega⟩
    obtain ⟨cs, hc, ht⟩ := hi i (by simp at hmm; omega)
    rw [kl] at hc
    obtain ⟨_, hcl, hat⟩ := World.cells?_some hc
    have hO := open_ins ht
    have hcell : ∀ j, j < 2 → w.cell? ((a.add (i * 2)).add j) = cs[j]? := fun j hj => hat j hj
    refine ⟨a, cs, rfl, hO, ?_, hcell⟩
    obtain ⟨f, v, rfl, _⟩ := hO
    have := lt_of_cell (hcell 0 (by omega))
    rwa [add_block, add_block] at this
end
end Go.Proofs.Ytiblicpaeogihaa
