/- What the program's two tables hold, cell for cell. -/
import Derived.Lib.LaidTab
import Derived.Stop.LaidErr
import Derived.OpenShut
import Derived.Test.YtjdjkdgdbdenpaaDoorM03
import Derived.Test.YtjdjkdgdbdenpaaDoorM02
set_option linter.unusedVariables false
set_option linter.unusedSimpArgs false
namespace Go.Proofs.YtjdjkdgdbdenpaaDoor
open Go Go.RowKit

/-- An array of strings that reads as these texts holds them, cell for cell. -/
theorem cells_of_strs {H : Type} {enc : TypeId × Value → H} {P : Program} {w : World} {base : Nat} {sp : Nat → Bool} {held : Bool} {fuel : Nat} {t e : TypeId} {n : Nat} {cs : List Value} {ls : List (List UInt8)} {p : List MemPlace}
    (ht : P.underlying t = some (.array n e)) (he : P.underlying e = some .string) (hce : P.cellsOf e = 1) (hct : P.cellsOf t = n)
    (h : DataW.trod enc P w base sp held fuel t cs = some (.agg (ls.map fun l => .lit (.string l)), p)) : cs = ls.map fun l => Value.string (strOf l) := by
  obtain ⟨xs, m, _, hx, hl, hxl, hall⟩ := DataW.trod_array ht h
  rw [hce] at hall
  have hxs : xs.map (·.1) = ls.map fun l => (DataW.lit (.string l) : DataW H) := by
    have := congrArg Prod.fst hx
    simpa using this.symm
  have hll : ls.length = n := by
    have := congrArg List.length hxs
    simp at this
    omega
  apply List.ext_getElem?
  intro i
  by_cases hi : i < n
  · have hf := hall i hi
    obtain ⟨b, hb⟩ : ∃ b, xs[i]? = some b := ⟨xs[i], List.getElem?_eq_getElem (by omega)⟩
    rw [hb] at hf
    obtain ⟨s, hc, rfl, _⟩ := DataW.trod_string he hf
    have h1 : cs[i]? = some (.string s) := by
      have := congrArg (·[0]?) hc
      simpa [List.getElem?_take, List.getElem?_drop] using this
    have h2 : (xs.map (·.1))[i]? = some (DataW.lit (.string s.data.toList) : DataW H) := by simp [hb]
    rw [hxs] at h2
    simp only [List.getElem?_map, Option.map_eq_some_iff, DataW.lit.injEq, Lit.string.injEq] at h2
    obtain ⟨z, hz, rfl⟩ := h2
    simp [h1, hz, strOf]
  · rw [List.getElem?_eq_none (by omega), List.getElem?_eq_none (by simp; omega)]
/-- Three cells of a row. -/
def row3 (r : List UInt8 × Int × Int) : List Value := [.string (strOf r.1), .int .i64 r.2.1, .int .i64 r.2.2]
theorem row3_at : ∀ (l : List (List UInt8 × Int × Int)) (k : Nat) (a : List UInt8 × Int × Int), l[k]? = some a →
    (l.flatMap row3)[k * 3]? = some (.string (strOf a.1)) ∧ (l.flatMap row3)[k * 3 + 1]? = some (.int .i64 a.2.1) ∧ (l.flatMap row3)[k * 3 + 2]? = some (.int .i64 a.2.2)
  | [], k, a, h => by simp at h
  | x :: l, 0, a, h => by
    simp only [List.getElem?_cons_zero, Option.some.injEq] at h
    subst h
    exact ⟨rfl, rfl, rfl⟩
  | x :: l, k + 1, a, h => by
    have ih := row3_at l k a (by simpa using h)
    have e : ∀ j, ((x :: l).flatMap row3)[(k + 1) * 3 + j]? = (l.flatMap row3)[k * 3 + j]? := by
      intro j
      rw [List.flatMap_cons, show (k + 1) * 3 + j = (row3 x).length + (k * 3 + j) by show _ = 3 + _; omega, List.getElem?_append_right (by omega)]
      congr 1
      omega
    exact ⟨(e 0).trans ih.1, (e 1).trans ih.2.1, (e 2).trans ih.2.2⟩
/-- An array of the program's rows that reads as these rows holds them. -/
theorem cells_of_rows {H : Type} {enc : TypeId × Value → H} {w : World} {base : Nat} {sp : Nat → Bool} {held : Bool} {fuel : Nat} {cs : List Value} {ls : List (List UInt8 × Int × Int)} {p : List MemPlace}
    (hct : Tryd.prog.cellsOf 125 = 45) (hce : Tryd.prog.cellsOf 110 = 3) (hcs : Tryd.prog.cellsOf 9 = 1) (hci : Tryd.prog.cellsOf 3 = 1)
    (h : DataW.trod enc Tryd.prog w base sp held fuel 125 cs = some (.agg (ls.map fun r => .agg [.lit (.string r.1), .lit (.int .i64 r.2.1), .lit (.int .i64 r.2.2)]), p)) : cs = ls.flatMap row3 := by
  obtain ⟨xs, m, _, hx, hl, hxl, hall⟩ := DataW.trod_array Tryd.underlying125 h
  rw [hce] at hall
  rw [hct] at hl
  have hxs : xs.map (·.1) = ls.map fun r => (DataW.agg [.lit (.string r.1), .lit (.int .i64 r.2.1), .lit (.int .i64 r.2.2)] : DataW H) := by
    have := congrArg Prod.fst hx
    simpa using this.symm
  have hll : ls.length = 15 := by
    have := congrArg List.length hxs
    simp at this
    omega
  have key : ∀ i, i < 15 → ∃ r, ls[i]? = some r ∧ (cs.drop (i * 3)).take 3 = row3 r := by
    intro i hi
    have hf := hall i hi
    obtain ⟨b, hb⟩ : ∃ b, xs[i]? = some b := ⟨xs[i], List.getElem?_eq_getElem (by omega)⟩
    rw [hb] at hf
    obtain ⟨ys, m', _, rfl, hcl, hyl, hfs⟩ := DataW.trod_struct Tryd.underlying110 hf
    rw [hce] at hcl
    obtain ⟨y0, y1, y2, rfl⟩ : ∃ y0 y1 y2, ys = [y0, y1, y2] := by
      match ys, hyl with
      | [a, b, c], _ => exact ⟨a, b, c, rfl⟩
    have f0 : DataW.trod enc Tryd.prog w base sp held m' 9 (List.take (Tryd.prog.cellsOf 9) (List.drop 0 (List.take 3 (List.drop (i * 3) cs)))) = some y0 := hfs 0 _ rfl
    have f1 : DataW.trod enc Tryd.prog w base sp held m' 3 (List.take (Tryd.prog.cellsOf 3) (List.drop 1 (List.take 3 (List.drop (i * 3) cs)))) = some y1 := hfs 1 _ rfl
    have f2 : DataW.trod enc Tryd.prog w base sp held m' 3 (List.take (Tryd.prog.cellsOf 3) (List.drop 2 (List.take 3 (List.drop (i * 3) cs)))) = some y2 := hfs 2 _ rfl
    rw [hcs] at f0
    rw [hci] at f1 f2
    obtain ⟨s, c0, e0, _⟩ := DataW.trod_string Tryd.underlying9 f0
    obtain ⟨u, c1, e1, _⟩ := DataW.trod_int Tryd.underlying3 f1
    obtain ⟨v, c2, e2, _⟩ := DataW.trod_int Tryd.underlying3 f2
    have h2 : (xs.map (·.1))[i]? = some (DataW.agg ([y0, y1, y2].map (·.1)) : DataW H) := by simp [hb]
    rw [hxs] at h2
    simp only [List.getElem?_map, Option.map_eq_some_iff] at h2
    obtain ⟨r, hr, hr2⟩ := h2
    refine ⟨r, hr, ?_⟩
    simp [e0, e1, e2] at hr2
    obtain ⟨g0, g1, g2⟩ := hr2
    obtain ⟨zs, hz⟩ : ∃ zs, List.take 3 (List.drop (i * 3) cs) = zs := ⟨_, rfl⟩
    rw [hz] at c0 c1 c2 hcl ⊢
    clear hz f0 f1 f2 hfs hf hall
    match zs, hcl with
    | [a, b, c], _ =>
      simp at c0 c1 c2
      subst c0 c1 c2
      unfold row3
      rw [g0, g1, g2]
      simp [strOf]
  apply List.ext_getElem?
  intro j
  by_cases hj : j < 45
  · obtain ⟨r, hr, hc⟩ := key (j / 3) (by omega)
    obtain ⟨a0, a1, a2⟩ := row3_at ls (j / 3) r hr
    have hg : ∀ q, q < 3 → cs[j / 3 * 3 + q]? = (row3 r)[q]? := by
      intro q hq
      have := congrArg (·[q]?) hc
      rw [← this]
      simp [List.getElem?_drop, hq]
    rcases (by omega : j = j / 3 * 3 ∨ j = j / 3 * 3 + 1 ∨ j = j / 3 * 3 + 2) with h | h | h
    · rw [h]; exact (hg 0 (by omega)).trans (by rw [a0]; rfl)
    · rw [h]; exact (hg 1 (by omega)).trans (by rw [a1]; rfl)
    · rw [h]; exact (hg 2 (by omega)).trans (by rw [a2]; rfl)
  · rw [List.getElem?_eq_none (by omega), List.getElem?_eq_none]
    have hfl : ∀ l : List (List UInt8 × Int × Int), (l.flatMap row3).length = l.length * 3 := by
      intro l
      induction l with
      | nil => rfl
      | cons x l ih => rw [List.flatMap_cons, List.length_append, ih, List.length_cons]; show 3 + _ = _; omega
    rw [hfl]
    omega

/-! ### The variables in a world -/
def FT (w : World) : Prop := w.var? Tryd.prog "transputer/instr.functions" = some (fnT.flatMap row3).toArray
def OT (w : World) : Prop := w.var? Tryd.prog "transputer/instr.operationNames" = some (opT.map fun r => Value.string (strOf r.1)).toArray
def Vars (w : World) : Prop := FT w ∧ OT w
theorem var_below {n : String} {cs : Array Value} {w w' : World} (h : w.var? Tryd.prog n = some cs) (hb : Below w.heap.size w w') : w'.var? Tryd.prog n = some cs := by
  unfold World.var? at *
  cases hg : Tryd.prog.globalNamed n with
  | none => simp [hg] at h
  | some g =>
    simp only [hg, Option.bind_some] at h ⊢
    have hlt : g < w.heap.size := by
      rcases Nat.lt_or_ge g w.heap.size with h' | h'
      · exact h'
      · rw [Array.getElem?_eq_none h'] at h; simp at h
    rw [hb.block g hlt]
    exact h
theorem Vars.below {w w' : World} (h : Vars w) (hb : Below w.heap.size w w') : Vars w' := ⟨var_below h.1 hb, var_below h.2 hb⟩
theorem gF : Tryd.prog.globalNamed "transputer/instr.functions" = some 0 := by kernel_rfl
theorem gO : Tryd.prog.globalNamed "transputer/instr.operationNames" = some 1 := by kernel_rfl
theorem fnT_at (k : Nat) (h : k < 15) : fnT[k]? = some (rowL (k : Int) 0) := by
  have hl : fnT.length = 15 := by decide
  unfold rowL
  rw [if_pos (by omega), Int.toNat_natCast, List.getD_eq_getElem?_getD, List.getElem?_eq_getElem (by omega)]
  rfl
theorem opT_at (k : Nat) (h : k < 90) : opT[k]? = some (rowL 15 (k : Int)) := by
  have hl : opT.length = 90 := by decide
  unfold rowL
  rw [if_neg (by omega), if_pos (by omega), Int.toNat_natCast, List.getD_eq_getElem?_getD, List.getElem?_eq_getElem (by omega)]
  rfl
theorem FT.cells {w : World} (h : FT w) (k : Nat) (hk : k < 15) (a : Int) :
    w.cell? ⟨0, k * 3, none⟩ = some (.string (strOf (nm k a))) ∧ w.cell? ⟨0, k * 3 + 1, none⟩ = some (.int .i64 (tk k a)) ∧ w.cell? ⟨0, k * 3 + 2, none⟩ = some (.int .i64 (lv k a)) := by
  obtain ⟨a0, a1, a2⟩ := row3_at fnT k _ (fnT_at k hk)
  have e := rowL_fn (f := (k : Int)) (by omega) a 0
  unfold nm tk lv
  rw [e]
  refine ⟨?_, ?_, ?_⟩
  · rw [World.var?_cell gF h]; simpa using a0
  · rw [World.var?_cell gF h]; simpa using a1
  · rw [World.var?_cell gF h]; simpa using a2
theorem OT.cell {w : World} (h : OT w) (k : Nat) (hk : k < 90) : w.cell? ⟨1, k, none⟩ = some (.string (strOf (nm 15 k))) := by
  rw [World.var?_cell gO h]
  have := opT_at k hk
  simp only [List.getElem?_toArray, List.getElem?_map, this, Option.map_some]
  rfl
end Go.Proofs.YtjdjkdgdbdenpaaDoor
/- The row of an instruction in the program's tables. -/
namespace Go.Proofs.YtjdjkdgdbdenpaaDoor
open Go Go.RowKit

theorem g_lt {w : World} {p : Addr} {v : Value} (h : w.cell? p = some v) : p.block < w.heap.size := by
  unfold World.cell? at h
  rcases Nat.lt_or_ge p.block w.heap.size with h' | h'
  · exact h'
  · rw [Array.getElem?_eq_none h'] at h; simp at h
theorem strOf_empty (l : List UInt8) : (strOf l).toList.isEmpty = l.isEmpty := by
  rw [Lib.toList_data]
  simp [strOf]
theorem ret_row {s t : ByteArray} {a b c d : Int} {p q : Bool} (h : s = t) (h1 : a = b) (h2 : c = d) (h3 : p = q) :
    Ending.returned (.tuple #[.agg #[.string s, .int .i64 a, .int .i64 c], .bool p]) = .returned (.tuple #[.agg #[.string t, .int .i64 b, .int .i64 d], .bool q]) := by rw [h, h1, h2, h3]
theorem neq_empty (s : List UInt8) (p : Bool) (hp : (!s.isEmpty) = p) : (!(strOf s).toList.isEmpty) = p := by rw [strOf_empty]; exact hp
/-- What rowOf returns. -/
def RowIs (f a : Int) (w : World) (e : Ending) (w' : World) : Prop :=
  e = .returned (.tuple #[.agg #[.string (strOf (nm f a)), .int .i64 (tk f a), .int .i64 (lv f a)], .bool (ex f a)]) ∧ Below w.heap.size w w'
set_option maxHeartbeats 1000000 in
theorem rowOf_fn (f : Nat) (a : Int) (h : f < 15) (w : World) (hv : Vars w) :
    Calls Tryd.prog 58 #[.agg #[.int .u8 (f : Int), .int .i32 a]] w (RowIs f a w) := by
  obtain ⟨c0, c1, c2⟩ := hv.1.cells f h a
  have hlt : decide ((f : Int) < 15) = true := by simp; omega
  have hz : 0 < w.heap.size := g_lt c0
  clear hv
  unfold RowIs
  go_enter Tryd.func58, Tryd.ntmps58
  go_wp2
  exact bodyPost_ret (v := .tuple #[.agg #[.string (strOf (nm f a)), .int .i64 (tk f a), .int .i64 (lv f a)], .bool (!(strOf (nm f a)).toList.isEmpty)]) (by simp [results, Tryd.results58, go_sem]) rfl
    ⟨ret_row rfl rfl rfl (neq_empty _ _ rfl), ((Below.refl _ _).alloc (Nat.le_refl _) _).alloc (by simp) _⟩
set_option maxHeartbeats 1000000 in
theorem rowOf_op (a : Nat) (h : a < 90) (w : World) (hv : Vars w) :
    Calls Tryd.prog 58 #[.agg #[.int .u8 15, .int .i32 (a : Int)]] w (RowIs 15 a w) := by
  have c0 := hv.2.cell a h
  have h1 : decide ((0 : Int) ≤ (a : Int)) = true := by simp
  have h2 : decide ((a : Int) < 90) = true := by simp; omega
  have hz : 1 < w.heap.size := g_lt c0
  have hz0 : 0 < w.heap.size := Nat.zero_lt_of_lt hz
  have C := Lib.hid (fun W => effect_any (a : Int) (by omega) (by omega) W)
  clear hv
  unfold RowIs
  go_enter Tryd.func58, Tryd.ntmps58
  go_wp2_with (go_at_call 71; refine (C.out _).mono ?_; rintro e w' ⟨rfl, rfl⟩)
  exact bodyPost_ret (v := .tuple #[.agg #[.string (strOf (nm 15 a)), .int .i64 (tk 15 a), .int .i64 (lv 15 a)], .bool (!(strOf (nm 15 a)).toList.isEmpty)]) (by simp [results, Tryd.results58, go_sem]) rfl
    ⟨ret_row rfl rfl rfl (neq_empty _ _ rfl), ((Below.refl _ _).alloc (Nat.le_refl _) _).alloc (by simp) _⟩
theorem none_row {f a : Int} (h : rowL f a = ([], 0, 0)) : strOf (nm f a) = ⟨#[]⟩ ∧ tk f a = 0 ∧ lv f a = 0 ∧ ex f a = false := by
  unfold ex nm tk lv
  rw [h]
  exact ⟨rfl, rfl, rfl, rfl⟩
set_option maxHeartbeats 1000000 in
theorem rowOf_out (a : Int) (ha : isW a) (h : a < 0 ∨ 90 ≤ a) (w : World) :
    Calls Tryd.prog 58 #[.agg #[.int .u8 15, .int .i32 a]] w (RowIs 15 a w) := by
  obtain ⟨a0, a1⟩ := ha
  obtain ⟨e0, e1, e2, e3⟩ := none_row (rowL_out h)
  unfold RowIs
  rw [e0, e1, e2, e3]
  clear e0 e1 e2 e3
  rcases (by omega : a < 0 ∨ (0 ≤ a ∧ 90 ≤ a)) with h1 | ⟨h1, h2⟩
  · have h3 : decide ((0 : Int) ≤ a) = false := by simp; omega
    go_enter Tryd.func58, Tryd.ntmps58
    go_wp2
    exact bodyPost_ret (v := .tuple #[.agg #[.string ⟨#[]⟩, .int .i64 0, .int .i64 0], .bool false]) (by simp [results, Tryd.results58, go_sem]) rfl
      ⟨rfl, ((Below.refl _ _).alloc (Nat.le_refl _) _).alloc (by simp) _⟩
  · have h3 : decide ((0 : Int) ≤ a) = true := by simp; omega
    have h4 : decide (a < 90) = false := by simp; omega
    go_enter Tryd.func58, Tryd.ntmps58
    go_wp2
    exact bodyPost_ret (v := .tuple #[.agg #[.string ⟨#[]⟩, .int .i64 0, .int .i64 0], .bool false]) (by simp [results, Tryd.results58, go_sem]) rfl
      ⟨rfl, ((Below.refl _ _).alloc (Nat.le_refl _) _).alloc (by simp) _⟩
set_option maxHeartbeats 1000000 in
theorem rowOf_great (f : Nat) (a : Int) (h : 15 < f) (w : World) :
    Calls Tryd.prog 58 #[.agg #[.int .u8 (f : Int), .int .i32 a]] w (RowIs f a w) := by
  obtain ⟨e0, e1, e2, e3⟩ := none_row (rowL_no (f := (f : Int)) (by omega) a)
  unfold RowIs
  rw [e0, e1, e2, e3]
  clear e0 e1 e2 e3
  have h3 : decide ((f : Int) < 15) = false := by simp; omega
  have h4 : ((f : Int) == 15) = false := by simp; omega
  go_enter Tryd.func58, Tryd.ntmps58
  go_wp2
  exact bodyPost_ret (v := .tuple #[.agg #[.string ⟨#[]⟩, .int .i64 0, .int .i64 0], .bool false]) (by simp [results, Tryd.results58, go_sem]) rfl
    ⟨rfl, ((Below.refl _ _).alloc (Nat.le_refl _) _).alloc (by simp) _⟩
theorem rowOf_any (f a : Int) (hf : 0 ≤ f) (ha : isW a) (w : World) (hv : Vars w) :
    Calls Tryd.prog 58 #[.agg #[.int .u8 f, .int .i32 a]] w (RowIs f a w) := by
  obtain ⟨n, rfl⟩ : ∃ n : Nat, f = (n : Int) := ⟨f.toNat, by omega⟩
  rcases (by omega : n < 15 ∨ n = 15 ∨ 15 < n) with h | rfl | h
  · exact rowOf_fn n a h w hv
  · rcases (by omega : (a < 0 ∨ 90 ≤ a) ∨ (0 ≤ a ∧ a < 90)) with h | ⟨h0, h1⟩
    · exact rowOf_out a ha h w
    · obtain ⟨k, rfl⟩ : ∃ k : Nat, a = (k : Int) := ⟨a.toNat, by omega⟩
      exact rowOf_op k (by omega) w hv
  · exact rowOf_great n a h w
end Go.Proofs.YtjdjkdgdbdenpaaDoor
