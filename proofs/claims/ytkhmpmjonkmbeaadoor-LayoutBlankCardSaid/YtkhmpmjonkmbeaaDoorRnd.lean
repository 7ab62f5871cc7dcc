/- A region that draws its order, within a round of a loop over an iterator: it runs as it does outside. -/
import Derived.Test.YtkhmpmjonkmbeaaDoorSoft
import Derived.BigRegionIn
set_option linter.unusedVariables false
set_option linter.unusedSimpArgs false
namespace Go.Proofs.YtkhmpmjonkmbeaaDoor
open Go Go.RowKit

theorem oper_round {n : Nat} {P : Program} {o : Go.Oper} (l : Nat) (hd : ∀ c, o.op ≠ Op.defer c) {a : Act} {w : World} {K : Act → World → Prop} {Q : Exit → Act → World → Prop} (h : o.wpIn Fence.wide n P a w K Q) : o.wpIn (Fence.wide.inRound l) n P a w K Q := by
  unfold Oper.wpIn at h ⊢
  refine ⟨fun _ _ => trivial, ?_⟩
  have h2 := h.2
  rw [Oper.semAt_eq _ _ _ hd] at h2 ⊢
  exact h2
theorem any_round {n : Nat} {P : Program} {md : Region.Mode} {ops : Array Go.Oper} {Q : Exit → Act → World → Prop} (l : Nat) (hd : ∀ (i : Nat) (o : Go.Oper), ops[i]? = some o → ∀ c, o.op ≠ Op.defer c) : ∀ (fuel : Nat) (listed : Array Bool) (a : Act) (w : World),
    wpAnyIn Fence.wide n P md ops Q fuel listed a w → wpAnyIn (Fence.wide.inRound l) n P md ops Q fuel listed a w := by
  intro fuel
  induction fuel with
  | zero => intro listed a w h; exact h
  | succ fuel ih =>
    intro listed a w h
    refine ⟨h.1, fun i hi => ?_⟩
    have h2 := wpOpIn_mono (fun a w => ih _ a w) (h.2 i hi)
    unfold wpOpIn at h2 ⊢
    split
    · rename_i ho; simpa [ho] using h2
    · rename_i o ho
      simp only [ho] at h2
      split
      · rename_i hw; simp only [hw, if_true] at h2; exact oper_round l (hd i o ho) h2
      · rename_i hw; simp only [hw] at h2; exact ⟨fun _ _ => trivial, h2.2⟩
def noDefer (o : Go.Oper) : Bool := match o.op with | .defer _ => false | _ => true
theorem noDefer_all {ops : Array Go.Oper} (h : ops.all noDefer = true) : ∀ (i : Nat) (o : Go.Oper), ops[i]? = some o → ∀ c, o.op ≠ Op.defer c := by
  intro i o ho c e
  have hm := Array.mem_of_getElem? ho
  have := (Array.all_eq_true_iff_forall_mem.1 h) o hm
  unfold noDefer at this
  rw [e] at this
  cases this
theorem region_round {n : Nat} {P : Program} {ops : Array Go.Oper} {id : Nat} {Q : Exit → Act → World → Prop} {a : Act} {w : World} (l : Nat) (hm : P.follows .mixedOrders = true) (hd : ops.all noDefer = true)
    (h : wpAnyIn Fence.wide n P .any ops Q ops.size (Array.replicate ops.size false) a { w with drawn := w.drawn + 1 }) : (Code.region id ops true).wpIn (Fence.wide.inRound l) n P Q a w :=
  wpIn_region_any hm (any_round l (noDefer_all hd) _ _ _ _ h)
/-- The same, from what has been laid as a region outside a round. -/
theorem code_round {n : Nat} {P : Program} {ops : Array Go.Oper} {Q : Exit → Act → World → Prop} {fuel : Nat} {listed : Array Bool} {a : Act} {w : World} {md : Region.Mode} (l : Nat) (hd : ops.all noDefer = true)
    (h : wpAnyIn Fence.wide n P md ops Q fuel listed a w) : wpAnyIn (Fence.wide.inRound l) n P md ops Q fuel listed a w := any_round l (noDefer_all hd) _ _ _ _ h
/-- All operations of a list, as far as they may come up. -/
def AllB (F : Fence) (n : Nat) (P : Program) (md : Region.Mode) (ops : Array Go.Oper) (Q : Exit → Act → World → Prop) (fuel : Nat) (listed : Array Bool) (a : Act) (w : World) (rs : List Nat) : Prop :=
  ∀ i ∈ rs, (Region.ready md ops listed).contains i = true → wpOpIn F n P ops Q i (wpAnyIn F n P md ops Q fuel (listed.setIfInBounds i true)) a w
section
variable {F : Fence} {n : Nat} {P : Program} {md : Region.Mode} {ops : Array Go.Oper} {Q : Exit → Act → World → Prop} {fuel : Nat} {listed : Array Bool} {a : Act} {w : World}
theorem allB_nil : AllB F n P md ops Q fuel listed a w [] := fun _ h => (by cases h)
theorem allB_no {i : Nat} {rs : List Nat} (h : (Region.ready md ops listed).contains i = false) (hs : AllB F n P md ops Q fuel listed a w rs) : AllB F n P md ops Q fuel listed a w (i :: rs) := fun j hj hc => by
  rcases List.mem_cons.1 hj with rfl | hj
  · rw [h] at hc; cases hc
  · exact hs j hj hc
theorem allB_yes {i : Nat} {o : Go.Oper} {rs : List Nat} (ho : ops[i]? = some o)
    (h : ∀ K' : Act → World → Prop, (∀ a w, wpAnyIn F n P md ops Q fuel (listed.setIfInBounds i true) a w → K' a w) → if Region.wanted o (yielded ops a.tmps) = true then Go.Oper.wpIn F n P o a w K' Q else (∀ f, o.about P w a.eval = some f → F.fn f) ∧ K' (a.put o.dst undef) w)
    (hs : AllB F n P md ops Q fuel listed a w rs) : AllB F n P md ops Q fuel listed a w (i :: rs) := fun j hj hc => by
  rcases List.mem_cons.1 hj with rfl | hj
  · exact wpOpIn_step ho h
  · exact hs j hj hc
theorem step_all (rs : List Nat) (hr : List.range ops.size = rs) (hne : (Region.ready md ops listed).isEmpty = false) (h : AllB F n P md ops Q fuel listed a w rs) : wpAnyIn F n P md ops Q (fuel + 1) listed a w := by
  refine ⟨fun h0 => ?_, fun i hi => ?_⟩
  · rw [h0] at hne; cases hne
  · refine h i ?_ (by simpa using hi)
    obtain ⟨_, o, ho, _⟩ := mem_ready.1 hi
    rw [← hr, List.mem_range]
    exact (Array.getElem?_eq_some_iff.1 ho).1
end
end Go.Proofs.YtkhmpmjonkmbeaaDoor
