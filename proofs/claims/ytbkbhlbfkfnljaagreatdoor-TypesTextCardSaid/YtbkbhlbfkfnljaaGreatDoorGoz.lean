/- What the row of TypesText lists; a type that came in. -/
import Derived.Test.YtbkbhlbfkfnljaaGreatDoorM19
import Derived.Test.YtbkbhlbfkfnljaaGreatDoorRows
import Derived.Lib.LaidTab
import Derived.Stop.LaidErr
import Derived.LaidMore
import Derived.Deep.Slices
import Derived.ChangeSame
set_option linter.unusedVariables false
set_option linter.unusedSimpArgs false
set_option linter.unusedVariables false
set_option linter.unusedSimpArgs false
namespace Go.Proofs.YtbkbhlbfkfnljaaGreatDoor
open Go Go.RowKit Go.ChangeShapes Go.WideShapes Go.Deep Go.ChangeAt L8 L9

theorem row2_at : ∀ (l : List (Bs × Int)) (k : Nat) (a : Bs × Int), l[k]? = some a → (l.flatMap row2)[k * 2]? = some (.string (strOf a.1)) ∧ (l.flatMap row2)[k * 2 + 1]? = some (.int .i64 a.2)
  | [], k, a, h => by simp at h
  | x :: l, 0, a, h => by
    simp only [List.getElem?_cons_zero, Option.some.injEq] at h
    subst h
    exact ⟨rfl, rfl⟩
  | x :: l, k + 1, a, h => by
    have ih := row2_at l k a (by simpa using h)
    have e : ∀ j, ((x :: l).flatMap row2)[(k + 1) * 2 + j]? = (l.flatMap row2)[k * 2 + j]? := by
      intro j
      rw [List.flatMap_cons, show (k + 1) * 2 + j = (row2 x).length + (k * 2 + j) by show _ = 2 + _; omega, List.getElem?_append_right (by omega)]
      congr 1
      omega
    exact ⟨(e 0).trans ih.1, (e 1).trans ih.2⟩
/-- An array of rows of a word and a size that reads as these rows holds them. -/
theorem cells_of_rows2 {H : Type} {enc : TypeId × Value → H} {w : World} {base : Nat} {sp : Nat → Bool} {held : Bool} {fuel : Nat} {cs : List Value} {ls : List (Bs × Int)} {p : List MemPlace}
    (hct : Tryz.prog.cellsOf 43 = 12) (hce : Tryz.prog.cellsOf 42 = 2) (hcs : Tryz.prog.cellsOf 9 = 1) (hci : Tryz.prog.cellsOf 3 = 1)
    (h : DataW.trod enc Tryz.prog w base sp held fuel 43 cs = some (.agg (ls.map fun r => .agg [.lit (.string r.1), .lit (.int .i64 r.2)]), p)) : cs = ls.flatMap row2 := by
  obtain ⟨xs, m, _, hx, hl, hxl, hall⟩ := DataW.trod_array Tryz.underlying43 h
  rw [hce] at hall
  rw [hct] at hl
  have hxs : xs.map (·.1) = ls.map fun r => (DataW.agg [.lit (.string r.1), .lit (.int .i64 r.2)] : DataW H) := by
    have := congrArg Prod.fst hx
    simpa using this.symm
  have hll : ls.length = 6 := by
    have := congrArg List.length hxs
    simp at this
    omega
  have key : ∀ i, i < 6 → ∃ r, ls[i]? = some r ∧ (cs.drop (i * 2)).take 2 = row2 r := by
    intro i hi
    have hf := hall i hi
    obtain ⟨b, hb⟩ : ∃ b, xs[i]? = some b := ⟨xs[i], List.getElem?_eq_getElem (by omega)⟩
    rw [hb] at hf
    obtain ⟨ys, m', _, rfl, hcl, hyl, hfs⟩ := DataW.trod_struct Tryz.underlying42 hf
    rw [hce] at hcl
    obtain ⟨y0, y1, rfl⟩ : ∃ y0 y1, ys = [y0, y1] := by
      match ys, hyl with
      | [a, b], _ => exact ⟨a, b, rfl⟩
    have f0 : DataW.trod enc Tryz.prog w base sp held m' 9 (List.take (Tryz.prog.cellsOf 9) (List.drop 0 (List.take 2 (List.drop (i * 2) cs)))) = some y0 := hfs 0 _ rfl
    have f1 : DataW.trod enc Tryz.prog w base sp held m' 3 (List.take (Tryz.prog.cellsOf 3) (List.drop 1 (List.take 2 (List.drop (i * 2) cs)))) = some y1 := hfs 1 _ rfl
    rw [hcs] at f0
    rw [hci] at f1
    obtain ⟨s, c0, e0, _⟩ := DataW.trod_string Tryz.underlying9 f0
    obtain ⟨u, c1, e1, _⟩ := DataW.trod_int Tryz.underlying3 f1
    have h2 : (xs.map (·.1))[i]? = some (DataW.agg ([y0, y1].map (·.1)) : DataW H) := by simp [hb]
    rw [hxs] at h2
    simp only [List.getElem?_map, Option.map_eq_some_iff] at h2
    obtain ⟨r, hr, hr2⟩ := h2
    refine ⟨r, hr, ?_⟩
    simp [e0, e1] at hr2
    obtain ⟨g0, g1⟩ := hr2
    obtain ⟨zs, hz⟩ : ∃ zs, List.take 2 (List.drop (i * 2) cs) = zs := ⟨_, rfl⟩
    rw [hz] at c0 c1 hcl ⊢
    clear hz f0 f1 hfs hf hall
    match zs, hcl with
    | [a, b], _ =>
      simp at c0 c1
      subst c0 c1
      unfold row2
      rw [g0, g1]
      simp [strOf]
  apply List.ext_getElem?
  intro j
  by_cases hj : j < 12
  · obtain ⟨r, hr, hc⟩ := key (j / 2) (by omega)
    obtain ⟨a0, a1⟩ := row2_at ls (j / 2) r hr
    have hg : ∀ q, q < 2 → cs[j / 2 * 2 + q]? = (row2 r)[q]? := by
      intro q hq
      have := congrArg (·[q]?) hc
      rw [← this]
      simp [List.getElem?_drop, hq]
    rcases (by omega : j = j / 2 * 2 ∨ j = j / 2 * 2 + 1) with h | h
    · rw [h]; exact (hg 0 (by omega)).trans (by rw [a0]; rfl)
    · rw [h]; exact (hg 1 (by omega)).trans (by rw [a1]; rfl)
  · rw [List.getElem?_eq_none (by omega), List.getElem?_eq_none]
    have hfl : ∀ l : List (Bs × Int), (l.flatMap row2).length = l.length * 2 := by
      intro l
      induction l with
      | nil => rfl
      | cons x l ih => rw [List.flatMap_cons, List.length_append, ih, List.length_cons]; show 2 + _ = _; omega
    rw [hfl]
    omega
theorem laidK {H : Type} : (Rows.laid_transputer_types_kinds : DataW H) = .agg (kdT.map fun r => .agg [.lit (.string r.1), .lit (.int .i64 r.2)]) := by kernel_rfl
theorem tK : (Tryz.prog.globals[0]?).map (·.type) = some 43 := by kernel_rfl
theorem t9_of {W : World} {rest : List (String × DataW Unit)} (h : laidMet Tryz.prog (("transputer/types.kinds", Rows.laid_transputer_types_kinds) :: rest) W) : T9 W := by
  obtain ⟨ps, ⟨g', t', cs, fuel, p, q, hg', ht', hvar, hd, _, _⟩, _⟩ := h
  obtain rfl := Option.some.inj (gK.symm.trans hg')
  obtain rfl := Option.some.inj (tK.symm.trans ht')
  rw [laidK] at hd
  have hc := cells_of_rows2 (by kernel_rfl) (by kernel_rfl) (by kernel_rfl) (by kernel_rfl) hd
  unfold T9
  rw [hvar, ← hc]
theorem gTab : Tryz.prog.globalNamed "internal/strconv.uint64pow10" = some 2 := by kernel_rfl
theorem gTabType : (Tryz.prog.globals[2]?).map (·.type) = some 141 := by kernel_rfl
theorem cellsTab : Tryz.prog.cellsOf 141 = 20 := by kernel_rfl
theorem cellsNum : Tryz.prog.cellsOf 125 = 1 := by kernel_rfl
theorem tab_of {W : World} {rest : List (String × DataW Unit)} (h : laidMet Tryz.prog (("internal/strconv.uint64pow10", Rows.laid_internal_strconv_uint64pow10) :: rest) W) : W1.Tab W :=
  Lib.tabIs_of_head (zs := Lib.pow10Tab) (rest := rest) gTab gTabType Tryz.underlying141 Tryz.underlying125 cellsNum cellsTab h
theorem table_z {W : World} (h : laidMet Tryz.prog [("math/bits.deBruijn32tab", Rows.laid_math_bits_deBruijn32tab), ("math/bits.deBruijn64tab", Rows.laid_math_bits_deBruijn64tab), ("internal/strconv.uint64pow10", Rows.laid_internal_strconv_uint64pow10), ("unicode/utf8.acceptRanges", Rows.laid_unicode_utf8_acceptRanges), ("transputer/types.kinds", Rows.laid_transputer_types_kinds), ("unicode/utf8.first", Rows.laid_unicode_utf8_first)] W) : T9 W ∧ W1.Tab W :=
  ⟨t9_of h.tail.tail.tail.tail, tab_of h.tail.tail⟩
theorem rowTypesText (a0 : Ty) (w0 : OKt a0) (w : World) (ht : T9 w ∧ W1.Tab w) :
    Calls Tryz.prog 3 #[.agg (tyC a0)] w fun e w' => e = .returned (.bool true) ∧ Below w.heap.size w w' := walkTypesText a0 w0 w ht.1 ht.2
section
variable {H : Type} {enc : TypeId × Value → H} {w : World}
theorem i32_wf9 {a : Int} (h : (Lit.int .i32 a).wf = true) : -2147483648 ≤ a ∧ a ≤ 2147483647 := by
  simp only [Lit.wf, IntKind.min, IntKind.max, IntKind.signed, IntKind.bits, Bool.and_eq_true, decide_eq_true_eq] at h
  simp at h
  omega
theorem i64_wf9 {a : Int} (h : (Lit.int .i64 a).wf = true) : -9223372036854775808 ≤ a ∧ a ≤ 9223372036854775807 := by
  simp only [Lit.wf, IntKind.min, IntKind.max, IntKind.signed, IntKind.bits, Bool.and_eq_true, decide_eq_true_eq] at h
  simp at h
  omega
set_option maxRecDepth 100000 in
theorem open_type {fuel : Nat} {cs : List Value} {x : DataW H × List MemPlace} (h : DataW.trod enc Tryz.prog w 0 (fun _ => true) true fuel 24 cs = some x) : ∃ y : Ty, cs = (tyC y).toList ∧ OKt y := by
  obtain ⟨xs, n, _, _, hl, hlen, hf⟩ := DataW.trod_struct Tryz.underlying24 h
  have kl : Tryz.prog.cellsOf 24 = 4 := by kernel_rfl
  have k1 : Tryz.prog.cellsOf 22 = 1 := by kernel_rfl
  have k3 : Tryz.prog.cellsOf 3 = 1 := by kernel_rfl
  have k9 : Tryz.prog.cellsOf 9 = 1 := by kernel_rfl
  rw [kl] at hl
  match cs, hl with
  | [c0, c1, c2, c3], _ =>
    match xs, hlen with
    | [y0, y1, y2, y3], _ =>
      have f0 := hf 0 _ rfl
      have f1 := hf 1 _ rfl
      have f2 := hf 2 _ rfl
      have f3 := hf 3 _ rfl
      simp [k1, k3, k9] at f0 f1 f2 f3
      obtain ⟨a, e0, _, w0⟩ := DataW.trod_int Tryz.underlying22 f0
      obtain ⟨b, e1, _, w1⟩ := DataW.trod_int Tryz.underlying3 f1
      obtain ⟨i, e2, _, w2⟩ := DataW.trod_int Tryz.underlying22 f2
      obtain ⟨s, e3, _, w3⟩ := DataW.trod_string Tryz.underlying9 f3
      injection e0 with e0
      injection e1 with e1
      injection e2 with e2
      injection e3 with e3
      subst e0 e1 e2 e3
      have hk := u8_wf9 w0
      have hi := u8_wf9 w2
      have hb := i64_wf9 w1
      obtain ⟨k, rfl⟩ : ∃ k : Nat, a = (k : Int) := ⟨a.toNat, by omega⟩
      obtain ⟨i, rfl⟩ : ∃ k : Nat, i = (k : Int) := ⟨i.toNat, by omega⟩
      refine ⟨⟨k, b, i, s.data.toList⟩, ?_, ?_⟩
      · unfold tyC
        dsimp only
        rw [← str_self s]
      · exact ⟨by show k < 256; omega, by show i < 256; omega, by simpa using w3, hb.1, hb.2⟩
end
end Go.Proofs.YtbkbhlbfkfnljaaGreatDoor
