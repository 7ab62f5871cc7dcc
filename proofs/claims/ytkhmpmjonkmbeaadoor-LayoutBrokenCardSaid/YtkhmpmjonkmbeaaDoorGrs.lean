/- The region of grouped that appends a row and closes the open lines: in whatever order. -/
import Derived.Test.YtkhmpmjonkmbeaaDoorRnd
set_option linter.unusedVariables false
set_option linter.unusedSimpArgs false
namespace Go.Proofs.YtkhmpmjonkmbeaaDoor
open Go Go.RowKit Go.Shelf L7

theorem oper_append {n : Nat} {P : Program} {o : Go.Oper} {a : Act} {w w' : World} {K : Act → World → Prop} {Q : Exit → Act → World → Prop} {y : Nat → Option Bool} {p : Prop} {s x : Operand} {t : TypeId} {v u r : Value} (hg : o.guard = none) (ho : o.op = Op.call { callee := Callee.builtin Builtin.append, args := #[s, x], argTypes := #[t, t] })
    (hs : a.eval s = v) (hx : a.eval x = u) (hr : (Builtin.append_ #[t, t] o.type #[v, u]).run P w = .ok r w') (hK : K (a.put o.dst r) w') : if Region.wanted o y = true then Go.Oper.wpIn Fence.wide n P o a w K Q else p := by
  rw [if_pos (by unfold Region.wanted; rw [hg])]
  refine ⟨fun _ _ => trivial, ?_⟩
  rw [Oper.semAt_eq _ _ _ (by rw [ho]; intro c e; cases e)]
  simp only [execOp, ho, resolve, invoke, builtin, Sem.run_bind, Sem.run_pure, Result.andThen_ok, List.map_toArray, List.map_cons, List.map_nil, hs, hx, hr]
  exact hK
set_option maxRecDepth 100000 in
set_option maxHeartbeats 8000000 in
theorem region11 {Q : Exit → Act → World → Prop} {V w9 : World} {h B2 k c c9 g9 g' cap' m : Nat} {A : Option Addr} {zn zd : Int} {zt : Bs} {v0 v1 v3 v4 v6 v8 v9 v10 v11 v12 v13 v14 v15 v16 v17 v18 v19 v20 v21 v22 v23 v24 v25 v26 v27 v28 v29 v30 v31 v32 v33 v34 v35 v36 v37 v38 v39 v40 v41 v42 v43 v44 v45 v46 v47 v48 v49 v50 v51 v52 v53 : Value}
    (c4 : V.cell? ⟨h, 0, none⟩ = some (.slice A k c)) (d1 : V.cell? ⟨h + 1 + 1 + 1, 0, none⟩ = some (.slice (some ⟨g', 0, none⟩) m cap'))
    (d2 : (V.alloc (.cells #[.int .i64 zn, .int .i64 zd, .string (strOf zt)] 38)).cell? ⟨h + 1 + 1 + 1, 0, none⟩ = some (.slice (some ⟨g', 0, none⟩) m cap'))
    (d5 : (V.alloc (.cells #[.int .i64 zn, .int .i64 zd, .string (strOf zt)] 38)).cell? ⟨h, 0, none⟩ = some (.slice A k c))
    (d3 : w9.cell? ⟨h + 1 + 1 + 1, 0, none⟩ = some (.slice (some ⟨g', 0, none⟩) m cap')) (d4 : w9.frozen? ⟨h + 1 + 1 + 1, 0, none⟩ = false)
    (d6 : w9.cell? ⟨h, 0, none⟩ = some (.slice A k c)) (d7 : w9.frozen? ⟨h, 0, none⟩ = false)
    (d8 : (w9.setCell ⟨h, 0, none⟩ (.slice (some ⟨g9, 0, none⟩) (k + 1) c9)).cell? ⟨h + 1 + 1 + 1, 0, none⟩ = some (.slice (some ⟨g', 0, none⟩) m cap'))
    (d9 : (w9.setCell ⟨h, 0, none⟩ (.slice (some ⟨g9, 0, none⟩) (k + 1) c9)).frozen? ⟨h + 1 + 1 + 1, 0, none⟩ = false)
    (z10 : V.cell? ⟨B2, 0, none⟩ = some (.int .i64 zn)) (z11 : V.cell? ⟨B2, 1, none⟩ = some (.int .i64 zd)) (z12 : V.cell? ⟨B2, 2, none⟩ = some (.string (strOf zt)))
    (hap : (Builtin.append_ #[22, 22] 22 #[.slice A k c, .slice (some ⟨V.heap.size, 0, none⟩) 1 1]).run Tryd.prog (V.alloc (.cells #[.int .i64 zn, .int .i64 zd, .string (strOf zt)] 38)).drew = .ok (.slice (some ⟨g9, 0, none⟩) (k + 1) c9) w9)
    (hm : m ≤ cap') (hcap : cap' ≤ maxLen)
    (hQ : ∀ a, Q .normal a ((w9.setCell ⟨h, 0, none⟩ (.slice (some ⟨g9, 0, none⟩) (k + 1) c9)).setCell ⟨h + 1 + 1 + 1, 0, none⟩ (.slice (some ⟨g', 0, none⟩) 0 cap'))) :
    wpAnyIn Fence.wide 0 Tryd.prog Region.Mode.any
    #[{ dst := some 37, op := Op.load 22 (Operand.tmp 2), type := 22, pos := "layout.go:116", after := #[], guard := none },
      { dst := some 38, op := Op.load 38 (Operand.tmp 7), type := 38, pos := "layout.go:116", after := #[], guard := none },
      { dst := some 39, op := Op.buildSlice 22 1 #[(0, Operand.tmp 38)], type := 22, pos := "layout.go:116", after := #[{ on := 1, ground := Ground.data }], guard := none },
      { dst := some 40, op := Op.call { callee := Callee.builtin Builtin.append, args := #[Operand.tmp 37, Operand.tmp 39], argTypes := #[22, 22] }, type := 22, pos := "layout.go:116", after := #[{ on := 0, ground := Ground.data }, { on := 2, ground := Ground.data }], guard := none },
      { dst := some 41, op := Op.load 78 (Operand.tmp 5), type := 78, pos := "layout.go:116", after := #[], guard := none },
      { dst := some 42, op := Op.slice 78 (Operand.tmp 41) none (some (Operand.const (Value.int IntKind.i64 0))) none, type := 78, pos := "layout.go:116", after := #[{ on := 4, ground := Ground.data }], guard := none },
      { dst := none, op := Op.store 22 (Operand.tmp 2) (Operand.tmp 40), type := 0, pos := "layout.go:116", after := #[{ on := 3, ground := Ground.data }, { on := 3, ground := Ground.chain }, { on := 0, ground := Ground.phase }, { on := 1, ground := Ground.phase }, { on := 2, ground := Ground.phase }, { on := 3, ground := Ground.phase }, { on := 4, ground := Ground.textOnly Departure.inlinedCapture }, { on := 5, ground := Ground.textOnly Departure.lateStoresUnsure }], guard := none },
      { dst := none, op := Op.store 78 (Operand.tmp 5) (Operand.tmp 42), type := 0, pos := "layout.go:116", after := #[{ on := 5, ground := Ground.data }, { on := 6, ground := Ground.chain }, { on := 0, ground := Ground.phase }, { on := 1, ground := Ground.phase }, { on := 2, ground := Ground.phase }, { on := 3, ground := Ground.phase }, { on := 4, ground := Ground.phase }, { on := 5, ground := Ground.phase }, { on := 6, ground := Ground.phase }], guard := none }]
    Q 8 (Array.replicate 8 false) { tmps := #[v0, v1, .pointer (some ⟨h, 0, none⟩), v3, v4, .pointer (some ⟨h + 1 + 1 + 1, 0, none⟩), v6, .pointer (some ⟨B2, 0, none⟩), v8, v9, v10, v11, v12, v13, v14, v15, v16, v17, v18, v19, v20, v21, v22, v23, v24, v25, v26, v27, v28, v29, v30, v31, v32, v33, v34, v35, v36, v37, v38, v39, v40, v41, v42, v43, v44, v45, v46, v47, v48, v49, v50, v51, v52, v53], defers := [] } V.drew := by
  repeat' (first
    | (with_reducible refine wpAnyIn_done (by decide +kernel) ?_ _; exact hQ _)
    | (with_reducible refine step_all [0, 1, 2, 3, 4, 5, 6, 7] (by kernel_rfl) (by decide +kernel) ?_)
    | (with_reducible exact allB_nil)
    | (with_reducible refine allB_no (by decide +kernel) ?_)
    | (with_reducible refine allB_yes rfl (fun K hK => ?_) ?_)
    | (refine oper_append rfl rfl rfl rfl hap (hK _ _ ?_); clear hK K)
    | (go_simp; refine hK _ _ ?_; clear hK K))
end Go.Proofs.YtkhmpmjonkmbeaaDoor
