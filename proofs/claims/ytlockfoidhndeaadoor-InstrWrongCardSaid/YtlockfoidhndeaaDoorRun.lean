/- A function whose text runs straight on: its call reckoned by the kernel. -/
import Derived.Test.YtlockfoidhndeaaDoorNamed
namespace Go.Proofs.YtlockfoidhndeaaDoor
open Go Go.RowKit

/-- Operations that end in a value, one behind the other. -/
def runOps (P : Program) (ops : Array Oper) : List Nat → Act → World → Option (Act × World)
  | [], a, w => some (a, w)
  | i :: rest, a, w =>
    match ops[i]? with
    | none => runOps P ops rest a w
    | some o =>
      if Region.wanted o (yielded ops a.tmps) then
        match (execOp a.eval o).run P w with
        | .ok (.value v) w' => runOps P ops rest (a.put o.dst v) w'
        | .ok .skip w' => runOps P ops rest (a.put o.dst undef) w'
        | _ => none
      else runOps P ops rest (a.put o.dst undef) w
theorem wpOps_of_run {P : Program} {ops : Array Oper} {Q : Exit → Act → World → Prop} : ∀ (l : List Nat) (a : Act) (w : World) (a' : Act) (w' : World),
    runOps P ops l a w = some (a', w') → Q .normal a' w' → wpOps P ops Q l a w
  | [], a, w, a', w', h, hq => by
    simp only [runOps, Option.some.injEq, Prod.mk.injEq] at h
    obtain ⟨rfl, rfl⟩ := h
    exact hq
  | i :: rest, a, w, a', w', h, hq => by
    unfold runOps at h
    unfold wpOps
    cases ho : ops[i]? with
    | none =>
      rw [ho] at h
      exact wpOps_of_run rest a w a' w' h hq
    | some o =>
      rw [ho] at h
      simp only at h ⊢
      by_cases hw : Region.wanted o (yielded ops a.tmps)
      · rw [if_pos hw] at h ⊢
        refine .inl ?_
        unfold Oper.wp
        generalize (execOp a.eval o).run P w = r at h ⊢
        split at h
        · exact wpOps_of_run rest _ _ a' w' h hq
        · exact wpOps_of_run rest _ _ a' w' h hq
        · cases h
      · rw [if_neg hw] at h ⊢
        exact wpOps_of_run rest _ w a' w' h hq
/-- Two regions and the return. -/
def runFn (P : Program) (fn : Func) (ops0 ops1 : Array Oper) (args : Array Value) (w : World) : Option (Value × World × World) :=
  match runOps P ops0 (List.range ops0.size) { tmps := args ++ Array.replicate (fn.ntmps - args.size) undef, defers := [] } w with
  | none => none
  | some (a1, w1) =>
    match runOps P ops1 (List.range ops1.size) a1 w1 with
    | none => none
    | some (a2, w2) =>
      match a2.defers, (results fn a2.tmps).run P w2 with
      | [], .ok v w3 => some (v, w2, w3)
      | _, _ => none
theorem calls_straight {P : Program} {f : FuncId} {fn : Func} {i0 i1 : Nat} {ops0 ops1 : Array Oper} {args : Array Value} {w W : World} {v : Value}
    (hf : P.funcs[f]? = some fn) (hb : fn.body = some (.seq (.region i0 ops0 false) (.seq (.region i1 ops1 false) .ret)))
    (hx : runFn P fn ops0 ops1 args w = some (v, W, W)) : Calls P f args w fun e w' => e = .returned v ∧ w' = W := by
  refine calls_of_wp hf hb ?_
  unfold runFn at hx
  split at hx
  · cases hx
  · rename_i a1 w1 h1
    split at hx
    · cases hx
    · rename_i a2 w2 h2
      split at hx
      · rename_i v' w3 hd hr
        simp only [Option.some.injEq, Prod.mk.injEq] at hx
        obtain ⟨rfl, rfl, rfl⟩ := hx
        refine wp_seq (wp_region (wpOps_of_run _ _ _ a1 w1 h1 ?_))
        refine wp_seq (wp_region (wpOps_of_run _ _ _ a2 _ h2 ?_))
        refine wp_ret ?_
        exact ⟨hd, v', hr, rfl, rfl⟩
      · cases hx
end Go.Proofs.YtlockfoidhndeaaDoor
