/- What the rows list of the project's own table; types, protocols, tokens that came in. -/
import Derived.Test.YtbkbhlbfkfnljaaDoorLya
import Derived.Test.YtbkbhlbfkfnljaaDoorRows
import Derived.Lib.LaidTab
import Derived.Stop.LaidErr
import Derived.LaidMore
import Derived.Deep.Slices
import Derived.ChangeSame
set_option linter.unusedVariables false
set_option linter.unusedSimpArgs false
namespace Go.Proofs.YtbkbhlbfkfnljaaDoor
open Go Go.RowKit Go.ChangeShapes Go.WideShapes Go.Deep Go.ChangeAt L8 L9

theorem row2_at : ∀ (l : List (Bs × Int)) (k : Nat) (a : Bs × Int), l[k]? = some a → (l.flatMap row2)[k * 2]? = some (.string (strOf a.1)) ∧ (l.flatMap row2)[k * 2 + 1]? = some (.int .i64 a.2)
  | [], k, a, h => by simp at h
  | x :: l, 0, a, h => by
    simp only [List.getElem?_cons_zero, Option.some.injEq] at h
    subst h
    exact ⟨rfl, rfl⟩
  | x :: l, k + 1, a, h => by
    have ih := row2_at l k a (by simpa using h)
    have e : ∀ j, ((x :: l).flatMap row2)[(k + 1) * 2 + j]? = (l.flatMap row2)[k * 2 + j]? := by
      intro j
      rw [List.flatMap_cons, show (k + 1) * 2 + j = (row2 x).length + (k * 2 + j) by show _ = 2 + _; omega, List.getElem?_append_right (by omega)]
      congr 1
      omega
    exact ⟨(e 0).trans ih.1, (e 1).trans ih.2⟩
/-- An array of rows of a word and a size that reads as these rows holds them. -/
theorem cells_of_rows2 {H : Type} {enc : TypeId × Value → H} {w : World} {base : Nat} {sp : Nat → Bool} {held : Bool} {fuel : Nat} {cs : List Value} {ls : List (Bs × Int)} {p : List MemPlace}
    (hct : Tryd.prog.cellsOf 67 = 12) (hce : Tryd.prog.cellsOf 66 = 2) (hcs : Tryd.prog.cellsOf 9 = 1) (hci : Tryd.prog.cellsOf 3 = 1)
    (h : DataW.trod enc Tryd.prog w base sp held fuel 67 cs = some (.agg (ls.map fun r => .agg [.lit (.string r.1), .lit (.int .i64 r.2)]), p)) : cs = ls.flatMap row2 := by
  obtain ⟨xs, m, _, hx, hl, hxl, hall⟩ := DataW.trod_array Tryd.underlying67 h
  rw [hce] at hall
  rw [hct] at hl
  have hxs : xs.map (·.1) = ls.map fun r => (DataW.agg [.lit (.string r.1), .lit (.int .i64 r.2)] : DataW H) := by
    have := congrArg Prod.fst hx
    simpa using this.symm
  have hll : ls.length = 6 := by
    have := congrArg List.length hxs
    simp at this
    omega
  have key : ∀ i, i < 6 → ∃ r, ls[i]? = some r ∧ (cs.drop (i * 2)).take 2 = row2 r := by
    intro i hi
    have hf := hall i hi
    obtain ⟨b, hb⟩ : ∃ b, xs[i]? = some b := ⟨xs[i], List.getElem?_eq_getElem (by omega)⟩
    rw [hb] at hf
    obtain ⟨ys, m', _, rfl, hcl, hyl, hfs⟩ := DataW.trod_struct Tryd.underlying66 hf
    rw [hce] at hcl
    obtain ⟨y0, y1, rfl⟩ : ∃ y0 y1, ys = [y0, y1] := by
      match ys, hyl with
      | [a, b], _ => exact ⟨a, b, rfl⟩
    have f0 : DataW.trod enc Tryd.prog w base sp held m' 9 (List.take (Tryd.prog.cellsOf 9) (List.drop 0 (List.take 2 (List.drop (i * 2) cs)))) = some y0 := hfs 0 _ rfl
    have f1 : DataW.trod enc Tryd.prog w base sp held m' 3 (List.take (Tryd.prog.cellsOf 3) (List.drop 1 (List.take 2 (List.drop (i * 2) cs)))) = some y1 := hfs 1 _ rfl
    rw [hcs] at f0
    rw [hci] at f1
    obtain ⟨s, c0, e0, _⟩ := DataW.trod_string Tryd.underlying9 f0
    obtain ⟨u, c1, e1, _⟩ := DataW.trod_int Tryd.underlying3 f1
    have h2 : (xs.map (·.1))[i]? = some (DataW.agg ([y0, y1].map (·.1)) : DataW H) := by simp [hb]
    rw [hxs] at h2
    simp only [List.getElem?_map, Option.map_eq_some_iff] at h2
    obtain ⟨r, hr, hr2⟩ := h2
    refine ⟨r, hr, ?_⟩
    simp [e0, e1] at hr2
    obtain ⟨g0, g1⟩ := hr2
    obtain ⟨zs, hz⟩ : ∃ zs, List.take 2 (List.drop (i * 2) cs) = zs := ⟨_, rfl⟩
    rw [hz] at c0 c1 hcl ⊢
    clear hz f0 f1 hfs hf hall
    match zs, hcl with
    | [a, b], _ =>
      simp at c0 c1
      subst c0 c1
      unfold row2
      rw [g0, g1]
      simp [strOf]
  apply List.ext_getElem?
  intro j
  by_cases hj : j < 12
  · obtain ⟨r, hr, hc⟩ := key (j / 2) (by omega)
    obtain ⟨a0, a1⟩ := row2_at ls (j / 2) r hr
    have hg : ∀ q, q < 2 → cs[j / 2 * 2 + q]? = (row2 r)[q]? := by
      intro q hq
      have := congrArg (·[q]?) hc
      rw [← this]
      simp [List.getElem?_drop, hq]
    rcases (by omega : j = j / 2 * 2 ∨ j = j / 2 * 2 + 1) with h | h
    · rw [h]; exact (hg 0 (by omega)).trans (by rw [a0]; rfl)
    · rw [h]; exact (hg 1 (by omega)).trans (by rw [a1]; rfl)
  · rw [List.getElem?_eq_none (by omega), List.getElem?_eq_none]
    have hfl : ∀ l : List (Bs × Int), (l.flatMap row2).length = l.length * 2 := by
      intro l
      induction l with
      | nil => rfl
      | cons x l ih => rw [List.flatMap_cons, List.length_append, ih, List.length_cons]; show 2 + _ = _; omega
    rw [hfl]
    omega
theorem laidK {H : Type} : (Rows.laid_transputer_types_kinds : DataW H) = .agg (kdT.map fun r => .agg [.lit (.string r.1), .lit (.int .i64 r.2)]) := by kernel_rfl
theorem tK : (Tryd.prog.globals[0]?).map (·.type) = some 67 := by kernel_rfl
theorem t9_of {W : World} {rest : List (String × DataW Unit)} (h : laidMet Tryd.prog (("transputer/types.kinds", Rows.laid_transputer_types_kinds) :: rest) W) : T9 W := by
  obtain ⟨ps, ⟨g', t', cs, fuel, p, q, hg', ht', hvar, hd, _, _⟩, _⟩ := h
  obtain rfl := Option.some.inj (gK.symm.trans hg')
  obtain rfl := Option.some.inj (tK.symm.trans ht')
  rw [laidK] at hd
  have hc := cells_of_rows2 (by kernel_rfl) (by kernel_rfl) (by kernel_rfl) (by kernel_rfl) hd
  unfold T9
  rw [hvar, ← hc]
section
variable {H : Type} {enc : TypeId × Value → H} {w : World}
theorem i32_wf9 {a : Int} (h : (Lit.int .i32 a).wf = true) : -2147483648 ≤ a ∧ a ≤ 2147483647 := by
  simp only [Lit.wf, IntKind.min, IntKind.max, IntKind.signed, IntKind.bits, Bool.and_eq_true, decide_eq_true_eq] at h
  simp at h
  omega
theorem i64_wf9 {a : Int} (h : (Lit.int .i64 a).wf = true) : -9223372036854775808 ≤ a ∧ a ≤ 9223372036854775807 := by
  simp only [Lit.wf, IntKind.min, IntKind.max, IntKind.signed, IntKind.bits, Bool.and_eq_true, decide_eq_true_eq] at h
  simp at h
  omega
set_option maxRecDepth 100000 in
theorem open_type {fuel : Nat} {cs : List Value} {x : DataW H × List MemPlace} (h : DataW.trod enc Tryd.prog w 0 (fun _ => true) true fuel 24 cs = some x) : ∃ y : Ty, cs = (tyC y).toList ∧ OKt y := by
  obtain ⟨xs, n, _, _, hl, hlen, hf⟩ := DataW.trod_struct Tryd.underlying24 h
  have kl : Tryd.prog.cellsOf 24 = 4 := by kernel_rfl
  have k1 : Tryd.prog.cellsOf 22 = 1 := by kernel_rfl
  have k3 : Tryd.prog.cellsOf 3 = 1 := by kernel_rfl
  have k9 : Tryd.prog.cellsOf 9 = 1 := by kernel_rfl
  rw [kl] at hl
  match cs, hl with
  | [c0, c1, c2, c3], _ =>
    match xs, hlen with
    | [y0, y1, y2, y3], _ =>
      have f0 := hf 0 _ rfl
      have f1 := hf 1 _ rfl
      have f2 := hf 2 _ rfl
      have f3 := hf 3 _ rfl
      simp [k1, k3, k9] at f0 f1 f2 f3
      obtain ⟨a, e0, _, w0⟩ := DataW.trod_int Tryd.underlying22 f0
      obtain ⟨b, e1, _, w1⟩ := DataW.trod_int Tryd.underlying3 f1
      obtain ⟨i, e2, _, w2⟩ := DataW.trod_int Tryd.underlying22 f2
      obtain ⟨s, e3, _, w3⟩ := DataW.trod_string Tryd.underlying9 f3
      injection e0 with e0
      injection e1 with e1
      injection e2 with e2
      injection e3 with e3
      subst e0 e1 e2 e3
      have hk := u8_wf9 w0
      have hi := u8_wf9 w2
      have hb := i64_wf9 w1
      obtain ⟨k, rfl⟩ : ∃ k : Nat, a = (k : Int) := ⟨a.toNat, by omega⟩
      obtain ⟨i, rfl⟩ : ∃ k : Nat, i = (k : Int) := ⟨i.toNat, by omega⟩
      refine ⟨⟨k, b, i, s.data.toList⟩, ?_, ?_⟩
      · unfold tyC
        dsimp only
        rw [← str_self s]
      · exact ⟨by show k < 256; omega, by show i < 256; omega, by simpa using w3, hb.1, hb.2⟩
set_option maxRecDepth 100000 in
theorem open_tok9 {fuel : Nat} {cs : List Value} {x : DataW H × List MemPlace} (h : DataW.trod enc Tryd.prog w 0 (fun _ => true) true fuel 57 cs = some x) : ∃ y : Tk, cs = rwC y ∧ OKx y := by
  obtain ⟨xs, n, _, _, hl, hlen, hf⟩ := DataW.trod_struct Tryd.underlying57 h
  have kl : Tryd.prog.cellsOf 57 = 4 := by kernel_rfl
  have k1 : Tryd.prog.cellsOf 55 = 1 := by kernel_rfl
  have k3 : Tryd.prog.cellsOf 3 = 1 := by kernel_rfl
  have k9 : Tryd.prog.cellsOf 9 = 1 := by kernel_rfl
  have k4 : Tryd.prog.cellsOf 21 = 1 := by kernel_rfl
  rw [kl] at hl
  match cs, hl with
  | [c0, c1, c2, c3], _ =>
    match xs, hlen with
    | [y0, y1, y2, y3], _ =>
      have f0 := hf 0 _ rfl
      have f1 := hf 1 _ rfl
      have f2 := hf 2 _ rfl
      have f3 := hf 3 _ rfl
      simp [k1, k3, k9, k4] at f0 f1 f2 f3
      obtain ⟨a, e0, _, w0⟩ := DataW.trod_int Tryd.underlying55 f0
      obtain ⟨b, e1, _, w1⟩ := DataW.trod_int Tryd.underlying3 f1
      obtain ⟨s, e2, _, w2⟩ := DataW.trod_string Tryd.underlying9 f2
      obtain ⟨n, e3, _, w3⟩ := DataW.trod_int Tryd.underlying21 f3
      injection e0 with e0
      injection e1 with e1
      injection e2 with e2
      injection e3 with e3
      subst e0 e1 e2 e3
      have hk := u8_wf9 w0
      have hn := i32_wf9 w3
      obtain ⟨k, rfl⟩ : ∃ k : Nat, a = (k : Int) := ⟨a.toNat, by omega⟩
      refine ⟨⟨k, b, s.data.toList, n⟩, ?_, ?_⟩
      · unfold rwC
        dsimp only
        rw [← str_self s]
      · refine ⟨by simpa using w2, by show k < 256; omega, hn.1, hn.2⟩
theorem list_of9 {α : Type} (d : α) {P : Nat → α → Prop} (n : Nat) (h : ∀ i, i < n → ∃ x, P i x) : ∃ ls : List α, ls.length = n ∧ ∀ i, i < n → P i (ls.getD i d) := by
  induction n with
  | zero => exact ⟨[], rfl, fun i hi => absurd hi (by omega)⟩
  | succ n ih =>
    obtain ⟨ls, hl, hp⟩ := ih (fun i hi => h i (by omega))
    obtain ⟨x, hx⟩ := h n (by omega)
    refine ⟨ls ++ [x], by simp [hl], fun i hi => ?_⟩
    by_cases hin : i < n
    · have e : (ls ++ [x]).getD i d = ls.getD i d := by simp [List.getElem?_append_left (show i < ls.length by omega)]
      rw [e]; exact hp i hin
    · obtain rfl : i = n := by omega
      have e : (ls ++ [x]).getD i d = x := by simp [← hl]
      rw [e]; exact hx
theorem open_toks9 {fuel : Nat} {A : Option Addr} {len cap : Nat} {x : DataW H × List MemPlace} (h : DataW.trod enc Tryd.prog w 0 (fun _ => true) true fuel 37 [.slice A len cap] = some x) : IsTk w A len cap := by
  have kl : Tryd.prog.cellsOf 57 = 4 := by kernel_rfl
  rcases open_slice Tryd.underlying37 h with ⟨e, _⟩ | ⟨a, l, c, m, n, D, Pl, e, _, hl, hm, hmm, _, hi⟩
  · injection e with e _
    injection e with e1 e2 e3
    subst e1 e2 e3
    exact ⟨[], rfl, RR.nil w⟩
  · injection e with e _
    injection e with e1 e2 e3
    subst e1 e2 e3
    obtain ⟨ls, hls, hp⟩ := list_of9 r0 (P := fun i y => OKx y ∧ RwAt w (a.add (i * 4)) y) len (fun i him => by
      obtain ⟨cs, hc, ht⟩ := hi i (by simp at hmm; omega)
      rw [kl] at hc
      obtain ⟨_, hcl, hat⟩ := World.cells?_some hc
      obtain ⟨y, rfl, hy⟩ := open_tok9 ht
      refine ⟨y, hy, ?_⟩
      have hcell : ∀ j, j < 4 → w.cell? ((a.add (i * 4)).add j) = (rwC y)[j]? := fun j hj => hat j hj
      have h0 := hcell 0 (by omega)
      rw [add_add_, Nat.add_zero] at h0
      have hs : ∀ j, j < 3 → w.cell? ⟨(a.add (i * 4)).block, (a.add (i * 4)).off + (j + 1), none⟩ = (rwC y)[j + 1]? := fun j hj => by
        have := hcell (j + 1) (by omega)
        rwa [add_succ_] at this
      exact ⟨h0, hs 0 (by omega), hs 1 (by omega), hs 2 (by omega)⟩)
    refine ⟨ls, hls, ⟨by omega, by omega, fun y hy => ?_, fun j hj => ⟨a, rfl, (hp j (by omega)).2⟩⟩⟩
    obtain ⟨i, hi', rfl⟩ := List.getElem_of_mem hy
    have := (hp i (by omega)).1
    have e : ls.getD i r0 = ls[i] := by simp [hi']
    rwa [e] at this
/-! ### Protocols -/
theorem open_kinds {fuel : Nat} {cs : List Value} {x : DataW H × List MemPlace} (h : DataW.trod enc Tryd.prog w 0 (fun _ => true) true fuel 29 cs = some x) : ∃ A c, ∃ ks : List Nat, cs = [.slice A ks.length c] ∧ KR w A c ks := by
  have kl : Tryd.prog.cellsOf 22 = 1 := by kernel_rfl
  rcases open_slice Tryd.underlying29 h with ⟨rfl, _⟩ | ⟨a, l, c, m, n, D, Pl, rfl, _, hl, hm, hmm, _, hi⟩
  · exact ⟨none, 0, [], rfl, KR.nil w⟩
  · obtain ⟨ls, hls, hp⟩ := list_of9 0 (P := fun i k => k < 256 ∧ w.cell? (a.add i) = some (.int .u8 ((k : Nat) : Int))) l (fun i him => by
      obtain ⟨cs, hc, ht⟩ := hi i (by simp at hmm; omega)
      rw [kl, Nat.mul_one] at hc
      obtain ⟨_, hcl, hat⟩ := World.cells?_some hc
      obtain ⟨k, rfl, _, hw⟩ := DataW.trod_int Tryd.underlying22 ht
      have hk := u8_wf9 hw
      obtain ⟨k, rfl⟩ : ∃ q : Nat, k = (q : Int) := ⟨k.toNat, by omega⟩
      have h0 := hat 0 (by omega)
      rw [add_add_, Nat.add_zero] at h0
      exact ⟨k, by omega, h0⟩)
    refine ⟨some a, c, ls, by rw [hls], ⟨by omega, by omega, fun k hk => ?_, fun j hj => ⟨a, rfl, (hp j (by omega)).2⟩⟩⟩
    obtain ⟨i, hi', rfl⟩ := List.getElem_of_mem hk
    have := (hp i (by omega)).1
    have e : ls.getD i 0 = ls[i] := by simp [hi']
    rwa [e] at this
set_option maxRecDepth 100000 in
theorem open_variant {fuel : Nat} {cs : List Value} {x : DataW H × List MemPlace} (h : DataW.trod enc Tryd.prog w 0 (fun _ => true) true fuel 31 cs = some x) : ∃ A c, ∃ v : Vr, cs = [.string (strOf v.tag), .slice A v.it.length c] ∧ v.tag.length ≤ maxLen ∧ KR w A c v.it := by
  obtain ⟨xs, n, _, _, hl, hlen, hf⟩ := DataW.trod_struct Tryd.underlying31 h
  have kl : Tryd.prog.cellsOf 31 = 2 := by kernel_rfl
  have k9 : Tryd.prog.cellsOf 9 = 1 := by kernel_rfl
  have k1 : Tryd.prog.cellsOf 29 = 1 := by kernel_rfl
  rw [kl] at hl
  match cs, hl with
  | [c0, c1], _ =>
    match xs, hlen with
    | [y0, y1], _ =>
      have f0 := hf 0 _ rfl
      have f1 := hf 1 _ rfl
      simp [k9, k1] at f0 f1
      obtain ⟨s, e0, _, w0⟩ := DataW.trod_string Tryd.underlying9 f0
      obtain ⟨A, c, ks, e1, K⟩ := open_kinds f1
      injection e0 with e0
      injection e1 with e1
      subst e0 e1
      refine ⟨A, c, ⟨s.data.toList, ks⟩, ?_, by simpa using w0, K⟩
      dsimp only
      rw [← str_self s]
/-- A slice of variants that came in. -/
def IsVn (w : World) (A : Option Addr) (n d : Nat) : Prop := ∃ vs : List Vr, vs.length = n ∧ VnR w A d vs
theorem open_variants {fuel : Nat} {cs : List Value} {x : DataW H × List MemPlace} (h : DataW.trod enc Tryd.prog w 0 (fun _ => true) true fuel 25 cs = some x) : ∃ A n d, cs = [.slice A n d] ∧ IsVn w A n d := by
  have kl : Tryd.prog.cellsOf 31 = 2 := by kernel_rfl
  rcases open_slice Tryd.underlying25 h with ⟨rfl, _⟩ | ⟨a, l, c, m, n, D, Pl, rfl, _, hl, hm, hmm, _, hi⟩
  · exact ⟨none, 0, 0, rfl, [], rfl, VnR.nil w⟩
  · obtain ⟨ls, hls, hp⟩ := list_of9 v0 (P := fun i v => v.tag.length ≤ maxLen ∧ VrAt w (a.add (i * 2)) v) l (fun i him => by
      obtain ⟨cs, hc, ht⟩ := hi i (by simp at hmm; omega)
      rw [kl] at hc
      obtain ⟨_, hcl, hat⟩ := World.cells?_some hc
      obtain ⟨B, e, v, rfl, hv, K⟩ := open_variant ht
      refine ⟨v, hv, ?_⟩
      have h0 := hat 0 (by omega)
      rw [add_add_, Nat.add_zero] at h0
      have h1 := hat 1 (by omega)
      rw [add_succ_] at h1
      exact ⟨h0, B, e, h1, K⟩)
    refine ⟨some a, l, c, rfl, ls, hls, ⟨by omega, by omega, fun v hv => ?_, fun j hj => ⟨a, rfl, (hp j (by omega)).2⟩⟩⟩
    obtain ⟨i, hi', rfl⟩ := List.getElem_of_mem hv
    have := (hp i (by omega)).1
    have e : ls.getD i v0 = ls[i] := by simp [hi']
    rwa [e] at this
set_option maxRecDepth 100000 in
theorem open_proto {fuel : Nat} {cs : List Value} {x : DataW H × List MemPlace} (h : DataW.trod enc Tryd.prog w 0 (fun _ => true) true fuel 27 cs = some x) : ∃ c A n d, cs = [.bool c, .slice A n d] ∧ IsVn w A n d := by
  obtain ⟨xs, n, _, _, hl, hlen, hf⟩ := DataW.trod_struct Tryd.underlying27 h
  have kl : Tryd.prog.cellsOf 27 = 2 := by kernel_rfl
  have k9 : Tryd.prog.cellsOf 4 = 1 := by kernel_rfl
  have k1 : Tryd.prog.cellsOf 25 = 1 := by kernel_rfl
  rw [kl] at hl
  match cs, hl with
  | [c0, c1], _ =>
    match xs, hlen with
    | [y0, y1], _ =>
      have f0 := hf 0 _ rfl
      have f1 := hf 1 _ rfl
      simp [k9, k1] at f0 f1
      obtain ⟨b, e0, _⟩ := DataW.trod_bool Tryd.underlying4 f0
      obtain ⟨A, n, d, e1, K⟩ := open_variants f1
      injection e0 with e0
      injection e1 with e1
      subst e0 e1
      exact ⟨b, A, n, d, rfl, K⟩
end
end Go.Proofs.YtbkbhlbfkfnljaaDoor
