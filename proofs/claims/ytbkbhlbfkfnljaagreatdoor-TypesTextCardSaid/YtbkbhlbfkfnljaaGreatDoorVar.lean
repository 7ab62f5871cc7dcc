/- Slices of kinds, slices of variants: what can be read, what is a row of the call's own. -/
import Derived.Test.YtbkbhlbfkfnljaaGreatDoorKit
import Derived.Test.YtbkbhlbfkfnljaaGreatDoorPro
set_option linter.unusedVariables false
set_option linter.unusedSimpArgs false
set_option linter.unusedVariables false
set_option linter.unusedSimpArgs false
namespace Go.Proofs.YtbkbhlbfkfnljaaGreatDoor
open Go Go.RowKit L8 L9

/-! ### Kinds -/
def kC (ks : List Nat) : List Value := ks.map fun (k : Nat) => Value.int .u8 (k : Int)
theorem kC_len (ks : List Nat) : (kC ks).length = ks.length := by simp [kC]
theorem kC_app (a b : List Nat) : kC (a ++ b) = kC a ++ kC b := by simp [kC]
theorem kC_at {ks : List Nat} {j : Nat} (h : j < ks.length) : (kC ks)[j]? = some (.int .u8 ((ks.getD j 0 : Nat) : Int)) := by simp [kC, h]
theorem kC_set (ks : List Nat) (i v : Nat) : kC (ks.set i v) = (kC ks).set i (.int .u8 (v : Int)) := by simp [kC]
theorem kC_one (ks : List Nat) : ∀ v ∈ kC ks, v.oneCell' = true := by
  intro v hv
  simp only [kC, List.mem_map] at hv
  obtain ⟨n, _, rfl⟩ := hv
  rfl
def OK8 (ks : List Nat) : Prop := ∀ k ∈ ks, k < 256
theorem OK8.get {ks : List Nat} (h : OK8 ks) (j : Nat) : ks.getD j 0 < 256 := by
  by_cases hj : j < ks.length
  · have e : ks.getD j 0 = ks[j] := by simp [hj]
    rw [e]; exact h _ (List.getElem_mem hj)
  · have e : ks.getD j 0 = 0 := by simp [Nat.le_of_not_lt hj]
    rw [e]; decide
/-- A slice of kinds that can be read. -/
structure KR (w : World) (A : Option Addr) (c : Nat) (ks : List Nat) : Prop where
  le : ks.length ≤ c
  mx : c ≤ maxLen
  ok : OK8 ks
  rd : ∀ j, j < ks.length → ∃ ad, A = some ad ∧ w.cell? (ad.add j) = some (.int .u8 ((ks.getD j 0 : Nat) : Int))
theorem KR.keep {w w' : World} {A : Option Addr} {c : Nat} {ks : List Nat} (h : KR w A c ks) (hb : Below w.heap.size w w') : KR w' A c ks :=
  ⟨h.le, h.mx, h.ok, fun j hj => by obtain ⟨ad, e, hl⟩ := h.rd j hj; exact ⟨ad, e, (hb.cell (g_lt hl)).trans hl⟩⟩
theorem KR.nil (w : World) : KR w none 0 [] := ⟨Nat.le_refl _, by simp [maxLen], (fun k h => by cases h), (fun j h => absurd h (by simp))⟩
def OwnK (w : World) (B : Nat) (A : Option Addr) (n c : Nat) (ks : List Nat) : Prop := w.ownsRow B 22 1 (.slice A n c) n (kC ks)
theorem OwnK.len {w : World} {B n c : Nat} {A : Option Addr} {ks : List Nat} (h : OwnK w B A n c ks) : ks.length = n := by
  have := h.1
  rw [kC_len] at this
  omega
theorem OwnK.keep {w w' : World} {B n c : Nat} {A : Option Addr} {ks : List Nat} (h : OwnK w B A n c ks) (hb : Below w.heap.size w w') : OwnK w' B A n c ks := own_keepB h hb
theorem OwnK.kr {w : World} {B n c : Nat} {A : Option Addr} {ks : List Nat} (h : OwnK w B A n c ks) (ho : OK8 ks) : KR w A c ks := by
  have hl := h.len
  rcases h.2 with ⟨hv, h0⟩ | ⟨g, cap, cur, hv, hB, hh, hnc, hm, hcs, hx⟩
  · injection hv with h1 h2 h3
    subst h1
    obtain rfl : ks = [] := List.eq_nil_of_length_eq_zero (by omega)
    exact ⟨by simp, by rw [h3]; simp [maxLen], ho, (fun j h => absurd h (by simp))⟩
  · injection hv with h1 h2 h3
    subst h1 h3
    exact ⟨by omega, hm, ho, fun j hj => ⟨_, rfl, World.ownsRow.cells h rfl j _ (kC_at hj)⟩⟩
theorem ownK_nil (w : World) (B : Nat) : OwnK w B none 0 0 [] := World.ownsRow_nil w B _ 1
theorem KR.cells {w : World} {A : Option Addr} {c : Nat} {ks : List Nat} (R : KR w A c ks) {ad : Addr} (e : A = some ad) : ∀ j u, (kC ks)[j]? = some u → w.cell? (ad.add j) = some u := by
  intro j u hj
  have hjl : j < ks.length := by
    have := (List.getElem?_eq_some_iff.1 hj).1
    rwa [kC_len] at this
  obtain ⟨ad', e', h0⟩ := R.rd j hjl
  rw [e] at e'
  cases e'
  rw [kC_at hjl] at hj
  rw [h0, hj]
theorem kind_info : (Tryz.prog.info? 22).map (fun i => (i.zero, i.size, i.bytes)) = some (some (.int .u8 0), 1, 1) := by kernel_rfl
theorem run_kinds {w : World} {base n c m d : Nat} {A A' : Option Addr} {xs ys : List Nat} {ty : TypeId} (hown : OwnK w base A n c xs) (hy : ys.length = m) (hm : 0 < m) (R : KR w A' d ys) (h63 : n + m ≤ 1000000) (hbase : base ≤ w.heap.size) :
    ∃ A2 c2 w', (Builtin.append_ #[47, 47] ty #[.slice A n c, .slice A' m d]).run Tryz.prog w = .ok (.slice A2 (n + m) c2) w' ∧ OwnK w' base A2 (n + m) c2 (xs ++ ys) ∧ w.grownBy w' (Value.slice A n c).ownBlock := by
  obtain ⟨i0, hi0, hz0, hz1, hz2⟩ := info_parts kind_info
  obtain ⟨ad, rfl, _⟩ := R.rd 0 (by omega)
  obtain ⟨g, cap, w', hr, h1, h2, _⟩ := run_append_lies (P := Tryz.prog) w 47 ty base 22 i0 (.int .u8 0) 1 1 Tryz.underlying47 hi0 hz0 hz1 hz2 rfl (by omega) (.slice A n c) n (kC xs) hown ad m d (kC ys) (by rw [kC_len, hy]; omega) (R.cells rfl) (kC_one ys) hm
    (by unfold maxLen; omega) (by omega) hbase w.heap.size rfl
  exact ⟨_, _, w', hr, by unfold OwnK; rw [kC_app]; exact h1, h2⟩
set_option maxRecDepth 100000 in
theorem run_kinds_none {w : World} {base n c d : Nat} {A A' : Option Addr} {xs : List Nat} {ty : TypeId} (hown : OwnK w base A n c xs) : (Builtin.append_ #[47, 47] ty #[.slice A n c, .slice A' 0 d]).run Tryz.prog w = .ok (.slice A n c) w := by
  obtain ⟨i0, hi0, hz0, hz1, hz2⟩ := info_parts kind_info
  rcases hown.2 with ⟨hv, h0⟩ | ⟨g, cap, cur, hv, _, _, hnc, _⟩
  · injection hv with h1 h2 h3
    subst h1; subst h3
    simp [Builtin.append_, run_underlying Tryz.underlying47, sizeOf, typeInfo, hi0, Builtin.lenOf, Builtin.firstCells, h0]
    rcases A' with _ | ad
    · simp
    · have hld := run_loadCells_list (P := Tryz.prog) w ad [] (by intro j u hj; simp at hj)
      simp only [List.length_nil] at hld
      simp [hld]
  · injection hv with h1 h2 h3
    subst h1; subst h3
    simp [Builtin.append_, run_underlying Tryz.underlying47, sizeOf, typeInfo, hi0, Builtin.lenOf, Builtin.firstCells, hnc, storeCells]
    rcases A' with _ | ad
    · simp [storeCells]
    · have hld := run_loadCells_list (P := Tryz.prog) w ad [] (by intro j u hj; simp at hj)
      simp only [List.length_nil] at hld
      simp [hld, storeCells]
/-- Kinds appended to a row of the call's own. -/
theorem app_kinds {w : World} {ops : Array Oper} {rest : List Oper} {o : Oper} {a : Act} {Q : Exit → Act → World → Prop} (hgd : o.guard = none) (s x : Operand)
    (ho : o.op = .call { callee := .builtin .append, args := #[s, x], argTypes := #[47, 47] }) (base n c m d l : Nat) (A A' : Option Addr) (xs ys : List Nat) (hs : a.eval s = .slice A n c) (hx : a.eval x = .slice A' m d)
    (hown : OwnK w base A n c xs) (hy : ys.length = m) (R : KR w A' d ys) (hl : n + m = l) (h63 : l ≤ 1000000) (hbase : base ≤ w.heap.size)
    (h : ∀ A2 c2 w', OwnK w' base A2 l c2 (xs ++ ys) → w.grownBy w' (Value.slice A n c).ownBlock → wpList Tryz.prog ops Q rest (a.put o.dst (.slice A2 l c2)) w') : wpList Tryz.prog ops Q (o :: rest) a w := by
  subst hl
  refine wpList_plain hgd fun K hK => ?_
  unfold Oper.wp execOp
  rcases Nat.eq_zero_or_pos m with hm0 | hm0
  · subst hm0
    obtain rfl : ys = [] := List.eq_nil_of_length_eq_zero hy
    simp only [ho, resolve, invoke, builtin, Sem.run_bind, Sem.run_pure, Result.andThen_ok, List.map_toArray, List.map_cons, List.map_nil, hs, hx, run_kinds_none hown]
    exact hK _ _ (h A c w (by rw [List.append_nil]; exact hown) (World.grownBy.refl w _))
  · obtain ⟨A2, c2, w', hr, h1, h2⟩ := run_kinds (ty := o.type) hown hy hm0 R h63 hbase
    simp only [ho, resolve, invoke, builtin, Sem.run_bind, Sem.run_pure, Result.andThen_ok, List.map_toArray, List.map_cons, List.map_nil, hs, hx, hr]
    exact hK _ _ (h A2 c2 w' h1 h2)
/-! ### Variants -/
/-- A variant's two cells. -/
def VrAt (w : World) (p : Addr) (v : Vr) : Prop := w.cell? p = some (.string (strOf v.tag)) ∧ ∃ B d, w.cell? ⟨p.block, p.off + 1, none⟩ = some (.slice B v.it.length d) ∧ KR w B d v.it
theorem VrAt.keep {w w' : World} {p : Addr} {v : Vr} (h : VrAt w p v) (hb : Below w.heap.size w w') : VrAt w' p v := by
  obtain ⟨h1, B, d, h2, h3⟩ := h
  exact ⟨(hb.cell (g_lt h1)).trans h1, B, d, (hb.cell (g_lt h2)).trans h2, h3.keep hb⟩
/-- A slice of variants that can be read. -/
structure VnR (w : World) (A : Option Addr) (c : Nat) (vs : List Vr) : Prop where
  le : vs.length ≤ c
  mx : c ≤ maxLen
  tg : ∀ v ∈ vs, v.tag.length ≤ maxLen
  rd : ∀ j, j < vs.length → ∃ ad, A = some ad ∧ VrAt w (ad.add (j * 2)) (vs.getD j v0)
theorem VnR.keep {w w' : World} {A : Option Addr} {c : Nat} {vs : List Vr} (h : VnR w A c vs) (hb : Below w.heap.size w w') : VnR w' A c vs :=
  ⟨h.le, h.mx, h.tg, fun j hj => by obtain ⟨ad, e, hl⟩ := h.rd j hj; exact ⟨ad, e, hl.keep hb⟩⟩
theorem VnR.tag {w : World} {A : Option Addr} {c : Nat} {vs : List Vr} (h : VnR w A c vs) (j : Nat) : (vs.getD j v0).tag.length ≤ maxLen := by
  by_cases hj : j < vs.length
  · have e : vs.getD j v0 = vs[j] := by simp [hj]
    rw [e]; exact h.tg _ (List.getElem_mem hj)
  · have e : vs.getD j v0 = v0 := by simp [Nat.le_of_not_lt hj]
    rw [e]; simp [v0, maxLen]
theorem VnR.nil (w : World) : VnR w none 0 [] := ⟨Nat.le_refl _, by simp [maxLen], (fun k h => by cases h), (fun j h => absurd h (by simp))⟩
/-! ### A type's cells, a protocol as a value -/
def tyV (t : Ty) : Value := .agg #[.int .u8 (t.k : Int), .int .i64 t.d, .int .u8 (t.i : Int), .string (strOf t.p)]
def tyC (t : Ty) : Array Value := #[.int .u8 (t.k : Int), .int .i64 t.d, .int .u8 (t.i : Int), .string (strOf t.p)]
def OKt (t : Ty) : Prop := t.k < 256 ∧ t.i < 256 ∧ t.p.length ≤ maxLen ∧ -9223372036854775808 ≤ t.d ∧ t.d ≤ 9223372036854775807
end Go.Proofs.YtbkbhlbfkfnljaaGreatDoor
