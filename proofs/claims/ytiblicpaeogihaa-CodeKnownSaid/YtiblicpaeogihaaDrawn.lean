/- Two appends of instructions in a statement whose order is open. -/
import Derived.Test.YtiblicpaeogihaaKnoc
namespace Go.Proofs.Ytiblicpaeogihaa
open Go Go.RowKit

theorem gd1 (w : World) : w.grownBy w.drew none := g_drew (World.grownBy.refl w none) 1
theorem gal {W X : World} {o : Obj} (h : W.grownBy X none) : W.grownBy (X.alloc o) none := g_trans h (World.grownBy_alloc X o none)
theorem heap_new {w : World} {o : Obj} {k : Nat} (h : k = w.heap.size) : (w.alloc o).heap[k]? = some o := by subst h; exact heap_alloc_new w o
theorem own_e {w : World} {B k : Nat} (hk : w.heap[k]? = some (.cells #[] 23)) (hB : B ≤ k) : OwnI w B (some ⟨k, 0, none⟩) 0 0 [] :=
  ⟨rfl, .inr ⟨k, 0, #[], rfl, hB, hk, Nat.le_refl _, by simp [maxLen], rfl, rfl⟩⟩
theorem ri_two {w : World} {q : Nat} {a b : II} (ha : a.1 < 256 ∧ isW a.2) (hb : b.1 < 256 ∧ isW b.2) (hq : w.heap[q]? = some (.cells #[.int .u8 (a.1 : Int), .int .i32 a.2, .int .u8 (b.1 : Int), .int .i32 b.2] 23)) : RI w (some ⟨q, 0, none⟩) 2 [a, b] :=
  OwnI.ri (B := 0) (n := 2) ⟨rfl, .inr ⟨q, 2, _, rfl, Nat.zero_le _, hq, Nat.le_refl _, by unfold maxLen; decide, rfl, rfl⟩⟩ (two_ok ha hb)
/-- Instructions appended to a row of the call's own: what the builtin does. -/
theorem run_inss {w : World} {base n c m d : Nat} {A A' : Option Addr} {xs ys : List II} {ty : TypeId} (hown : OwnI w base A n c xs) (hy : ys.length = m) (hm : 0 < m) (R : RI w A' d ys) (h63 : n + m ≤ 1000000) (hbase : base ≤ w.heap.size) :
    ∃ A2 c2 w', (Builtin.append_ #[43, 43] ty #[.slice A n c, .slice A' m d]).run Try.prog w = .ok (.slice A2 (n + m) c2) w' ∧ OwnI w' base A2 (n + m) c2 (xs ++ ys) ∧ w.grownBy w' (Value.slice A n c).ownBlock := by
  obtain ⟨i0, hi0, hz0, hz1, hz2⟩ := info_parts ins_info
  obtain ⟨ad, rfl, _⟩ := R.rd 0 (by omega)
  have hnews : ∀ j u, (is ys)[j]? = some u → w.cell? (ad.add j) = some u := by
    intro j u hj
    have hjl : j < ys.length * 2 := by
      have := (List.getElem?_eq_some_iff.1 hj).1
      rwa [is_len] at this
    obtain ⟨ad', e, h1, h2⟩ := R.rd (j / 2) (by omega)
    cases e
    obtain ⟨k1, k2⟩ := is_at (l := ys) (j := j / 2) (by omega)
    by_cases hp : j % 2 = 0
    · rw [show j / 2 * 2 = j by omega] at h1 k1
      rw [k1] at hj; cases hj; exact h1
    · rw [show j / 2 * 2 + 1 = j by omega] at k2
      rw [k2] at hj; cases hj
      rw [← h2]
      obtain ⟨q, rfl⟩ : ∃ q, j = q * 2 + 1 := ⟨j / 2, by omega⟩
      rw [show (q * 2 + 1) / 2 * 2 = q * 2 by omega, ← add_add_, add_succ_]
  obtain ⟨g, cap, w', hr, h1, h2, _⟩ := run_append_lies (P := Try.prog) w 43 ty base 23 i0 (.agg #[.int .u8 0, .int .i32 0]) 2 8 Try.underlying43 hi0 hz0 hz1 hz2 rfl (by omega) (.slice A n c) n (is xs) hown ad m d (is ys) (by rw [is_len, hy]) hnews (is_one ys) hm
    (by unfold maxLen; omega) (by omega) hbase w.heap.size rfl
  exact ⟨_, _, w', hr, by unfold OwnI; rw [is_app]; exact h1, h2⟩
/-- The first append: onto a row that was made. -/
theorem step_one {W X : World} {ops : Array Oper} {o : Oper} {a : Act} {K : Act → World → Prop} {Q : Exit → Act → World → Prop} {E : Prop} (hgd : o.guard = none) (s x : Operand)
    (ho : o.op = .call { callee := .builtin .append, args := #[s, x], argTypes := #[43, 43] }) (k N c : Nat) (A : Option Addr) (l : List II) (hs : a.eval s = .slice (some ⟨k, 0, none⟩) 0 0) (hx : a.eval x = .slice A N c)
    (hX : W.grownBy X none) (hk : X.heap[k]? = some (.cells #[] 23)) (hB : W.heap.size ≤ k) (hl : l.length = N) (hN : 0 < N ∧ N ≤ 100000) (R : RI W A c l)
    (h : ∀ A2 c2 w', W.grownBy w' none → OwnI w' W.heap.size A2 N c2 l → (∀ q, q ≠ k → q < X.heap.size → w'.heap[q]? = X.heap[q]?) → K (a.put o.dst (.slice A2 N c2)) w') :
    if Region.wanted o (yielded ops a.tmps) = true then Oper.wp Try.prog o a X K Q else E := by
  have hw : Region.wanted o (yielded ops a.tmps) = true := by simp [Region.wanted, hgd]
  rw [if_pos hw]
  obtain ⟨A2, c2, w', hr, h1, h2⟩ := run_inss (ty := o.type) (own_e hk hB) hl hN.1 (R.kept0 hX) (by omega) hX.size
  rw [Nat.zero_add] at hr h1
  rw [List.nil_append] at h1
  unfold Oper.wp execOp
  simp only [ho, resolve, invoke, builtin, Sem.run_bind, Sem.run_pure, Result.andThen_ok, List.map_toArray, List.map_cons, List.map_nil, hs, hx, hr]
  exact h A2 c2 w' (g_app2 hX (own_e hk hB) h2) h1 (fun q hq hlt => h2.block q hlt (fun e => hq (by cases e; rfl)))
/-- The second append: of two instructions that lie in a row that was made. -/
theorem step_two {W X : World} {ops : Array Oper} {o : Oper} {a : Act} {K : Act → World → Prop} {Q : Exit → Act → World → Prop} {E : Prop} (hgd : o.guard = none) (s x : Operand)
    (ho : o.op = .call { callee := .builtin .append, args := #[s, x], argTypes := #[43, 43] }) (q N c : Nat) (A : Option Addr) (l : List II) (hs : a.eval s = .slice A N c) (hx : a.eval x = .slice (some ⟨q, 0, none⟩) 2 2)
    (hX : W.grownBy X none) (own : OwnI X W.heap.size A N c l) (hq : X.heap[q]? = some (.cells #[.int .u8 4, .int .i32 5, .int .u8 2, .int .i32 0] 23)) (hok : OKI l) (hN : N ≤ 100000)
    (h : ∀ A2 c2 w', W.grownBy w' none → RI w' A2 c2 (l ++ [ldc, (2, 0)]) → K (a.put o.dst (.slice A2 (N + 2) c2)) w') :
    if Region.wanted o (yielded ops a.tmps) = true then Oper.wp Try.prog o a X K Q else E := by
  have hw : Region.wanted o (yielded ops a.tmps) = true := by simp [Region.wanted, hgd]
  rw [if_pos hw]
  have ha : (ldc : II).1 < 256 ∧ isW (ldc : II).2 := ⟨by decide, isW_lit (by decide)⟩
  have hb : ((2, 0) : II).1 < 256 ∧ isW ((2, 0) : II).2 := ⟨by decide, isW_lit (by decide)⟩
  obtain ⟨A2, c2, w', hr, h1, h2⟩ := run_inss (ty := o.type) (m := 2) own rfl (by omega) (ri_two (a := ldc) (b := (2, 0)) ha hb hq) (by omega) hX.size
  unfold Oper.wp execOp
  simp only [ho, resolve, invoke, builtin, Sem.run_bind, Sem.run_pure, Result.andThen_ok, List.map_toArray, List.map_cons, List.map_nil, hs, hx, hr]
  exact h A2 c2 w' (g_app2 hX own h2) (h1.ri (hok.app (two_ok ha hb)))
theorem kn_same {w : World} {A : Option Addr} {c : Nat} (R : RI w A c [ldc, (15, 5)]) : Calls Try.prog 24 #[.slice A 2 c, .slice (some ⟨w.heap.size, 0, none⟩) 2 2] (w.alloc (.cells #[.int .u8 4, .int .i32 5, .int .u8 15, .int .i32 5] 23)) fun e w' => e = .returned (.bool true) ∧ w.grownBy w' none := by
  have g := World.grownBy_alloc w (.cells #[.int .u8 4, .int .i32 5, .int .u8 15, .int .i32 5] 23) none
  have S : RI (w.alloc (.cells #[.int .u8 4, .int .i32 5, .int .u8 15, .int .i32 5] 23)) (some ⟨w.heap.size, 0, none⟩) 2 [ldc, (15, 5)] := ri_two (a := ldc) (b := (15, 5)) ⟨by decide, isW_lit (by decide)⟩ ⟨by decide, isW_lit (by decide)⟩ (heap_new rfl)
  exact (Same_any (n := 2) (R.kept0 g) S rfl).mono fun _ _ ⟨he, hg⟩ => ⟨he, g_trans g hg⟩
end Go.Proofs.Ytiblicpaeogihaa
