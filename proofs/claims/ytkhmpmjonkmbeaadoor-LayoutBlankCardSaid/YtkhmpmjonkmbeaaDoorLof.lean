/- The program's line of a text, and the row that lines make. -/
import Derived.Test.YtkhmpmjonkmbeaaDoorPra
import Derived.Test.YtkhmpmjonkmbeaaDoorAut
set_option linter.unusedVariables false
set_option linter.unusedSimpArgs false
namespace Go.Proofs.YtkhmpmjonkmbeaaDoor
open Go Go.RowKit L7

theorem box3f {W : World} {B : Nat} {t : TypeId} {cs : Array Value} (h : BoxS W B t cs) : W.frozen? ⟨B, 0, none⟩ = false ∧ W.frozen? ⟨B, 1, none⟩ = false ∧ W.frozen? ⟨B, 2, none⟩ = false :=
  ⟨h.frozen 0, h.frozen 1, h.frozen 2⟩
theorem box3_set0 {W : World} {B : Nat} {t : TypeId} {a b c : Value} (v : Value) (h : BoxS W B t #[a, b, c]) : BoxS (W.setCell ⟨B, 0, none⟩ v) B t #[v, b, c] := by
  obtain ⟨hlt, hk⟩ := Array.getElem?_eq_some_iff.1 h
  show (W.heap.modify B _)[B]? = _
  rw [Array.getElem?_eq_getElem (by rw [Array.size_modify]; exact hlt), Array.getElem_modify_self, hk]
  rfl
theorem box3_set1 {W : World} {B : Nat} {t : TypeId} {a b c : Value} (v : Value) (h : BoxS W B t #[a, b, c]) : BoxS (W.setCell ⟨B, 1, none⟩ v) B t #[a, v, c] := by
  obtain ⟨hlt, hk⟩ := Array.getElem?_eq_some_iff.1 h
  show (W.heap.modify B _)[B]? = _
  rw [Array.getElem?_eq_getElem (by rw [Array.size_modify]; exact hlt), Array.getElem_modify_self, hk]
  rfl
theorem box3_set2 {W : World} {B : Nat} {t : TypeId} {a b c : Value} (v : Value) (h : BoxS W B t #[a, b, c]) : BoxS (W.setCell ⟨B, 2, none⟩ v) B t #[a, b, v] := by
  obtain ⟨hlt, hk⟩ := Array.getElem?_eq_some_iff.1 h
  show (W.heap.modify B _)[B]? = _
  rw [Array.getElem?_eq_getElem (by rw [Array.size_modify]; exact hlt), Array.getElem_modify_self, hk]
  rfl
def set3 (W : World) (B : Nat) (a b c : Value) : World := ((W.setCell ⟨B, 0, none⟩ a).setCell ⟨B, 1, none⟩ b).setCell ⟨B, 2, none⟩ c
theorem box3_all {W : World} {B : Nat} {t : TypeId} {a' b' c' : Value} (a b c : Value) (h : BoxS W B t #[a', b', c']) : BoxS (set3 W B a b c) B t #[a, b, c] := box3_set2 _ (box3_set1 _ (box3_set0 _ h))
theorem bset3 {n : Nat} {w W : World} (h : Below n w W) {B : Nat} (hB : n ≤ B) (a b c : Value) : Below n w (set3 W B a b c) := bset (bset (bset h hB _) hB _) hB _
theorem cell_far {W : World} {B j : Nat} {p : Addr} {u : Value} (v : Value) (h : W.cell? p = some u) (hne : p.block ≠ B) : (W.setCell ⟨B, j, none⟩ v).cell? p = some u := by
  have e := Below.heap_setCell W ⟨B, j, none⟩ v p.block hne
  unfold World.cell? at h ⊢
  rw [e]
  exact h
theorem cell_set3 {W : World} {B : Nat} {p : Addr} {u : Value} (a b c : Value) (h : W.cell? p = some u) (hne : p.block ≠ B) : (set3 W B a b c).cell? p = some u := cell_far _ (cell_far _ (cell_far _ h hne) hne) hne
theorem cut_split (l : Bs) : (trimR (bare l)).drop (indL (trimR (bare l))) = (cutL l).2 ∧ ((trimR (bare l)).length : Int) - ((cutL l).2.length : Int) = ((cutL l).1 : Int) := by
  refine ⟨rfl, ?_⟩
  have h : indL (trimR (bare l)) ≤ (trimR (bare l)).length := by unfold indL; exact (List.takeWhile_prefix _).length_le
  unfold cutL
  dsimp only
  rw [List.length_drop]
  omega
/-- A line of the program. -/
abbrev lnR (n : Nat) (l : Bs) : Rw := ⟨(n : Int), ((cutL l).1 : Int), (cutL l).2⟩
set_option maxRecDepth 100000 in
set_option maxHeartbeats 4000000 in
theorem lineOf_any (n : Nat) (l : Bs) (hl : l.length ≤ 100000) (w : World) (hm : MaxIs w) : Calls Tryd.prog 67 #[.int .i64 (n : Int), .string (strOf l)] w fun e w' => e = .returned (rwV (lnR n l)) ∧ Below w.heap.size w w' := by
  have C1 := Lib.hid (fun (W : World) (b : Below w.heap.size w W) => cCut l (by omega) W (hm.below b))
  have hb := (bare_sub l).length_le
  have ht := (trimR_sub (bare l)).length_le
  have C2 := Lib.hid (fun (W : World) => cTrimR (bare l) (by omega) W)
  have C3 := Lib.hid (fun (W : World) => cTrimL (trimR (bare l)) W)
  obtain ⟨e1, e2⟩ := cut_split l
  rw [e1] at C3
  have hz1 := size_strOf (trimR (bare l))
  have hz2 := size_strOf (cutL l).2
  have hc := cut_le l
  unfold lnR
  generalize (cutL l).1 = ind at *
  generalize (cutL l).2 = t at *
  generalize strOf (bare l) = S1 at *
  generalize htl : (trimR (bare l)).length = tl at *
  generalize strOf (trimR (bare l)) = S2 at *
  have hs1 : IntKind.i64.wrap ((tl : Int) - (t.length : Int)) = (ind : Int) := by rw [e2]; exact IntWalk.i64_in _ (by omega)
  generalize t.length = q at *
  clear e1 hm htl hb
  have X0 := Lib.hid (boxS_new w 83 #[.int .i64 0, .int .i64 0, .string ⟨#[]⟩])
  go_enter Tryd.func67, Tryd.ntmps67
  go_wp2_with (first
    | (go_at_call 83; refine (C1.out _ (bal (b0 w) (.cells #[.int .i64 0, .int .i64 0, .string ⟨#[]⟩] 83))).mono ?_; rintro e w1 ⟨X, bb, rfl, b1⟩; have B1 := Lib.hid (blw (bal (b0 w) _) b1); have X1 := Lib.hid (X0.out.below b1); obtain ⟨⟨x0, y0, z0⟩, x1⟩ := box3 X1.out; obtain ⟨f0, f1, f2⟩ := box3f X1.out; clear b1)
    | (go_at_call 84; refine (C2.out _).mono ?_; rintro e w2 ⟨rfl, rfl⟩)
    | (go_at_call 85; refine (C3.out _).mono ?_; rintro e w3 ⟨rfl, rfl⟩))
  have HF := Lib.hid (And.intro (box3_all (.int .i64 (n : Int)) (.int .i64 (ind : Int)) (.string (strOf t)) X1.out) (bset3 B1.out (Nat.le_refl _) (.int .i64 (n : Int)) (.int .i64 (ind : Int)) (.string (strOf t))))
  unfold set3 at HF
  clear x0 y0 z0 x1 f0 f1 f2 hs1 e2 X1 B1
  generalize ((w1.setCell ⟨w.heap.size, 0, none⟩ (.int .i64 (n : Int))).setCell ⟨w.heap.size, 1, none⟩ (.int .i64 (ind : Int))).setCell ⟨w.heap.size, 2, none⟩ (.string (strOf t)) = W5 at *
  obtain ⟨⟨z0, z1, z2⟩, z5⟩ := box3 HF.out.1
  exact bodyPost_ret (v := rwV ⟨(n : Int), (ind : Int), t⟩) (by simp [results, Tryd.results67, go_sem, z0, z1, z2]) rfl ⟨rfl, HF.out.2⟩
end Go.Proofs.YtkhmpmjonkmbeaaDoor
