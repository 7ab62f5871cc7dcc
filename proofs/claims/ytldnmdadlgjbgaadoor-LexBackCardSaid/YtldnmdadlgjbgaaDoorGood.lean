/- What the rows list; tokens that came in. -/
import Derived.Test.YtldnmdadlgjbgaaDoorAwk
import Derived.Test.YtldnmdadlgjbgaaDoorRows
import Derived.Lib.LaidTab
import Derived.Stop.LaidErr
import Derived.LaidMore
import Derived.Deep.Slices
import Derived.ChangeSame
set_option linter.unusedVariables false
set_option linter.unusedSimpArgs false
namespace Go.Proofs.YtldnmdadlgjbgaaDoor
open Go Go.RowKit Go.ChangeShapes Go.WideShapes Go.Deep Go.ChangeAt L8

theorem gTab : Tryd.prog.globalNamed "internal/strconv.uint64pow10" = some 3 := by kernel_rfl
theorem gTabType : (Tryd.prog.globals[3]?).map (·.type) = some 120 := by kernel_rfl
theorem cellsTab : Tryd.prog.cellsOf 120 = 20 := by kernel_rfl
theorem cellsNum : Tryd.prog.cellsOf 87 = 1 := by kernel_rfl
theorem tab_of {W : World} {rest : List (String × DataW Unit)} (h : laidMet Tryd.prog (("internal/strconv.uint64pow10", Rows.laid_internal_strconv_uint64pow10) :: rest) W) : W1.Tab W :=
  Lib.tabIs_of_head (zs := Lib.pow10Tab) (rest := rest) gTab gTabType Tryd.underlying120 Tryd.underlying87 cellsNum cellsTab h
theorem table_c {W : World} (h : laidMet Tryd.prog [("math/bits.deBruijn32tab", Rows.laid_math_bits_deBruijn32tab), ("math/bits.deBruijn64tab", Rows.laid_math_bits_deBruijn64tab), ("internal/strconv.uint64pow10", Rows.laid_internal_strconv_uint64pow10), ("unicode/utf8.acceptRanges", Rows.laid_unicode_utf8_acceptRanges), ("unicode/utf8.first", Rows.laid_unicode_utf8_first)] W) : W1.Tab W :=
  tab_of h.tail.tail
theorem list_ofT {P : Nat → Tk → Prop} (n : Nat) (h : ∀ i, i < n → ∃ x, P i x) : ∃ ls : List Tk, ls.length = n ∧ ∀ i, i < n → P i (ls.getD i r0) := by
  induction n with
  | zero => exact ⟨[], rfl, fun i hi => absurd hi (by omega)⟩
  | succ n ih =>
    obtain ⟨ls, hl, hp⟩ := ih (fun i hi => h i (by omega))
    obtain ⟨x, hx⟩ := h n (by omega)
    refine ⟨ls ++ [x], by simp [hl], fun i hi => ?_⟩
    by_cases hin : i < n
    · have e : (ls ++ [x]).getD i r0 = ls.getD i r0 := by simp [List.getElem?_append_left (show i < ls.length by omega)]
      rw [e]; exact hp i hin
    · obtain rfl : i = n := by omega
      have e : (ls ++ [x]).getD i r0 = x := by simp [← hl]
      rw [e]; exact hx
section
variable {H : Type} {enc : TypeId × Value → H} {w : World}
theorem u8_wf {a : Int} (h : (Lit.int .u8 a).wf = true) : 0 ≤ a ∧ a < 256 := by
  simp only [Lit.wf, IntKind.min, IntKind.max, IntKind.signed, IntKind.bits, Bool.and_eq_true, decide_eq_true_eq] at h
  simp at h
  omega
set_option maxRecDepth 100000 in
theorem open_tok {fuel : Nat} {cs : List Value} {x : DataW H × List MemPlace} (h : DataW.trod enc Tryd.prog w 0 (fun _ => true) true fuel 26 cs = some x) : ∃ y : Tk, cs = rwC y ∧ OKx y := by
  obtain ⟨xs, n, _, _, hl, hlen, hf⟩ := DataW.trod_struct Tryd.underlying26 h
  have kl : Tryd.prog.cellsOf 26 = 4 := by kernel_rfl
  have k1 : Tryd.prog.cellsOf 24 = 1 := by kernel_rfl
  have k3 : Tryd.prog.cellsOf 3 = 1 := by kernel_rfl
  have k9 : Tryd.prog.cellsOf 9 = 1 := by kernel_rfl
  have k4 : Tryd.prog.cellsOf 21 = 1 := by kernel_rfl
  rw [kl] at hl
  match cs, hl with
  | [c0, c1, c2, c3], _ =>
    match xs, hlen with
    | [y0, y1, y2, y3], _ =>
      have f0 := hf 0 _ rfl
      have f1 := hf 1 _ rfl
      have f2 := hf 2 _ rfl
      have f3 := hf 3 _ rfl
      simp [k1, k3, k9, k4] at f0 f1 f2 f3
      obtain ⟨a, e0, _, w0⟩ := DataW.trod_int Tryd.underlying24 f0
      obtain ⟨b, e1, _, w1⟩ := DataW.trod_int Tryd.underlying3 f1
      obtain ⟨s, e2, _, w2⟩ := DataW.trod_string Tryd.underlying9 f2
      obtain ⟨n, e3, _, w3⟩ := DataW.trod_int Tryd.underlying21 f3
      injection e0 with e0
      injection e1 with e1
      injection e2 with e2
      injection e3 with e3
      subst e0 e1 e2 e3
      have hk := u8_wf w0
      have hn := W1.isW_of_wf w3
      obtain ⟨k, rfl⟩ : ∃ k : Nat, a = (k : Int) := ⟨a.toNat, by omega⟩
      refine ⟨⟨k, b, s.data.toList, n⟩, ?_, ?_⟩
      · unfold rwC
        dsimp only
        rw [← str_self s]
      · refine ⟨by simpa using w2, by show k < 256; omega, hn.1, hn.2⟩
def IsTs8 (w : World) (A : Option Addr) (len cap : Nat) : Prop := ∃ rs : List Tk, rs.length = len ∧ RR w A cap rs
theorem open_toks {fuel : Nat} {A : Option Addr} {len cap : Nat} {x : DataW H × List MemPlace} (h : DataW.trod enc Tryd.prog w 0 (fun _ => true) true fuel 22 [.slice A len cap] = some x) : IsTs8 w A len cap := by
  have kl : Tryd.prog.cellsOf 26 = 4 := by kernel_rfl
  rcases open_slice Tryd.underlying22 h with ⟨e, _⟩ | ⟨a, l, c, m, n, D, Pl, e, _, hl, hm, hmm, _, hi⟩
  · injection e with e _
    injection e with e1 e2 e3
    subst e1 e2 e3
    exact ⟨[], rfl, ⟨Nat.le_refl _, by simp [maxLen], OKL.nil, (fun j h => absurd h (by simp))⟩⟩
  · injection e with e _
    injection e with e1 e2 e3
    subst e1 e2 e3
    obtain ⟨ls, hls, hp⟩ := list_ofT (P := fun i y => OKx y ∧ RwAt w (a.add (i * 4)) y) len (fun i him => by
      obtain ⟨cs, hc, ht⟩ := hi i (by simp at hmm; omega)
      rw [kl] at hc
      obtain ⟨_, hcl, hat⟩ := World.cells?_some hc
      obtain ⟨y, rfl, hy⟩ := open_tok ht
      refine ⟨y, hy, ?_⟩
      have hcell : ∀ j, j < 4 → w.cell? ((a.add (i * 4)).add j) = (rwC y)[j]? := fun j hj => hat j hj
      have h0 := hcell 0 (by omega)
      rw [add_add_, Nat.add_zero] at h0
      have hs : ∀ j, j < 3 → w.cell? ⟨(a.add (i * 4)).block, (a.add (i * 4)).off + (j + 1), none⟩ = (rwC y)[j + 1]? := fun j hj => by
        have := hcell (j + 1) (by omega)
        rwa [add_succ_] at this
      exact ⟨h0, hs 0 (by omega), hs 1 (by omega), hs 2 (by omega)⟩)
    refine ⟨ls, hls, ⟨by omega, by omega, fun y hy => ?_, fun j hj => ⟨a, rfl, (hp j (by omega)).2⟩⟩⟩
    obtain ⟨i, hi', rfl⟩ := List.getElem_of_mem hy
    have := (hp i (by omega)).1
    have e : ls.getD i r0 = ls[i] := by simp [hi']
    rwa [e] at this
end
end Go.Proofs.YtldnmdadlgjbgaaDoor
