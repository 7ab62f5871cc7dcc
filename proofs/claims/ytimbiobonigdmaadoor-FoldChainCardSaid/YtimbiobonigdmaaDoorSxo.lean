/- Rows of specifications of the call's own. -/
import Derived.Test.YtimbiobonigdmaaDoorOpx
import Derived.Test.YtimbiobonigdmaaDoorLd
import Derived.Deep.WholeRow
set_option linter.unusedVariables false
set_option linter.unusedSimpArgs false
namespace Go.Proofs.YtimbiobonigdmaaDoor
open Go Go.RowKit L8 L10 L14

def sxCs (l : List Sx) : List Value := l.flatMap sxC
theorem sxC_len (y : Sx) : (sxC y).length = 16 := rfl
theorem sxCs_app (a b : List Sx) : sxCs (a ++ b) = sxCs a ++ sxCs b := by simp [sxCs]
theorem sxCs_len (l : List Sx) : (sxCs l).length = l.length * 16 := by
  induction l with
  | nil => rfl
  | cons y r ih => show (sxC y ++ sxCs r).length = _; rw [List.length_append, ih, sxC_len, List.length_cons]; omega
theorem sxCs_one {l : List Sx} (h : ∀ y ∈ l, SxOne y) : ∀ v ∈ sxCs l, v.oneCell' = true := by
  intro v hv
  simp only [sxCs, List.mem_flatMap] at hv
  obtain ⟨y, hy, hv⟩ := hv
  exact h y hy v hv
theorem sxCs_at : ∀ {l : List Sx} {j i : Nat}, j < l.length → i < 16 → (sxCs l)[j * 16 + i]? = (sxC (l.getD j sx0))[i]?
  | y :: r, 0, i, _, hi => by
    show (sxC y ++ sxCs r)[0 * 16 + i]? = _
    rw [Nat.zero_mul, Nat.zero_add, List.getElem?_append_left (by rw [sxC_len]; exact hi)]
    rfl
  | y :: r, j + 1, i, h, hi => by
    have ih := sxCs_at (l := r) (j := j) (by simpa using h) hi
    show (sxC y ++ sxCs r)[(j + 1) * 16 + i]? = _
    rw [List.getElem?_append_right (by rw [sxC_len]; omega), List.getD_cons_succ, ← ih, sxC_len]
    congr 1
    omega
theorem sx_mem {l : List Sx} {j : Nat} (h : j < l.length) : l.getD j sx0 ∈ l := by
  rw [List.getD_eq_getElem?_getD, List.getElem?_eq_getElem h]
  exact List.getElem_mem h
/-- A block that is not the row's. -/
def Ob (A : Option Addr) (b : Nat) : Prop := ∀ ad, A = some ad → ad.block ≠ b
/-- The parts of a specification, in blocks that N allows. -/
structure SxN (w : World) (N : Nat → Prop) (y : Sx) : Prop where
  ok : SpOk y.x
  one : SxOne y
  ss : SS w y.N y.c y.x.ns
  sb : ∀ ad, y.N = some ad → y.x.ns ≠ [] → N ad.block
  tr : TrN w N y.B y.d y.x.e.l
theorem ss_lt {w : World} {A : Option Addr} {c : Nat} {ns : List Bs} (h : SS w A c ns) : ∀ ad, A = some ad → ns ≠ [] → ad.block < w.heap.size := fun ad e hn => by
  obtain ⟨a, e2, hc⟩ := h.rd 0 (List.length_pos_iff.2 hn)
  rw [e] at e2
  injection e2 with e2
  subst e2
  have := g_lt hc
  rwa [add_block] at this
theorem SxN.v {w : World} {N : Nat → Prop} {y : Sx} (h : SxN w N y) : SxV w y := ⟨h.ok, h.one, h.ss, h.tr.tr⟩
theorem SxV.n {w : World} {N : Nat → Prop} {y : Sx} (h : SxV w y) (hN : ∀ k, k < w.heap.size → N k) : SxN w N y := ⟨h.ok, h.one, h.ss, fun ad e hn => hN _ (ss_lt h.ss ad e hn), h.tr.toN hN⟩
theorem SxN.mono {w : World} {N M : Nat → Prop} {y : Sx} (h : SxN w N y) (k : ∀ b, b < w.heap.size → N b → M b) : SxN w M y := ⟨h.ok, h.one, h.ss, fun ad e hn => k _ (ss_lt h.ss ad e hn) (h.sb ad e hn), h.tr.mono k⟩
theorem SxN.keep {w w' : World} {N : Nat → Prop} {y : Sx} (h : SxN w N y) (b : Below w.heap.size w w') : SxN w' N y := ⟨h.ok, h.one, h.ss.keep b, h.sb, h.tr.keep b⟩
theorem SxN.fr {w w' : World} {P N : Nat → Prop} {y : Sx} (h : SxN w N y) (g : Fr w w' P) (hN : ∀ k, k < w.heap.size → N k → ¬ P k) : SxN w' N y := by
  refine ⟨h.ok, h.one, ⟨h.ss.le, h.ss.mx, fun j hj => ?_⟩, h.sb, h.tr.fr g hN⟩
  obtain ⟨ad, e, hc⟩ := h.ss.rd j hj
  have hb := h.sb ad e (List.ne_nil_of_length_pos (by omega))
  have hl := g_lt hc
  rw [add_block] at hl
  exact ⟨ad, e, g.cell hc (by rw [add_block]; exact hN _ hl hb)⟩
/-- A row of specifications of the call's own, the parts of each in other memory. -/
structure SxO (w : World) (B : Nat) (A : Option Addr) (n c : Nat) (l : List Sx) : Prop where
  own : w.ownsRow B 51 16 (.slice A n c) n (sxCs l)
  sub : ∀ j, j < l.length → SxN w (Ob A) (l.getD j sx0)
theorem SxO.len {w : World} {B n c : Nat} {A : Option Addr} {l : List Sx} (h : SxO w B A n c l) : l.length = n := by
  have := h.own.1
  rw [sxCs_len] at this
  omega
theorem SxO.keep {w w' : World} {B n c : Nat} {A : Option Addr} {l : List Sx} (h : SxO w B A n c l) (b : Below w.heap.size w w') : SxO w' B A n c l := ⟨own_keepB h.own b, fun j hj => (h.sub j hj).keep b⟩
theorem SxO.nil (w : World) (B : Nat) : SxO w B none 0 0 [] := ⟨World.ownsRow_nil w B _ 16, fun j h => absurd h (by simp)⟩
theorem SxO.empty (v : World) : SxO (v.alloc (.cells #[] 51)) v.heap.size (some ⟨v.heap.size, 0, none⟩) 0 0 [] :=
  ⟨⟨rfl, .inr ⟨v.heap.size, 0, #[], rfl, Nat.le_refl _, boxS_new v _ _, Nat.le_refl _, by simp [maxLen], rfl, rfl⟩⟩, fun j h => absurd h (by simp)⟩
theorem SxO.r {w : World} {B n c : Nat} {A : Option Addr} {l : List Sx} (h : SxO w B A n c l) : SxR w A c l := by
  have hl := h.len
  rcases h.own.2 with ⟨hv, h0⟩ | ⟨g, cap, cur, hv, hB, hh, hnc, hm, hcs, hx⟩
  · injection hv with h1 h2 h3
    subst h1 h3
    obtain rfl : l = [] := List.eq_nil_of_length_eq_zero (by omega)
    exact ⟨Nat.le_refl _, by simp [maxLen], fun j h => absurd h (by simp)⟩
  · injection hv with h1 h2 h3
    subst h1 h3
    refine ⟨by omega, hm, fun j hj => ⟨_, rfl, fun i hi => ?_, (h.sub j hj).v⟩⟩
    have hs : i < (sxC (l.getD j sx0)).length := hi
    rw [add_add_, List.getElem?_eq_getElem hs]
    exact World.ownsRow.cells h.own rfl (j * 16 + i) _ ((sxCs_at hj hi).trans (List.getElem?_eq_getElem hs))
theorem spec_info : (Tryd.prog.info? 51).map (fun i => (i.zero, i.size, i.bytes)) = some (some (.agg #[.int .u8 0, .int .u8 0, .int .i64 0, .int .u8 0, .string ⟨#[]⟩, .slice none 0 0, .int .u8 0, .int .u8 0, .int .u8 0, .int .i32 0, .string ⟨#[]⟩, .slice none 0 0, .bool false, .slice none 0 0, .slice none 0 0, .slice none 0 0]), 16, 200) := by kernel_rfl
/-- A slice of specifications reads as their cells. -/
theorem SxR.cells {w : World} {ad : Addr} {c : Nat} {l : List Sx} (h : SxR w (some ad) c l) : ∀ j v, (sxCs l)[j]? = some v → w.cell? (ad.add j) = some v := fun j v hv => by
  have hj := (List.getElem?_eq_some_iff.1 hv).1
  rw [sxCs_len] at hj
  obtain ⟨a, e, hc, _⟩ := h.rd (j / 16) (by omega)
  injection e with e
  subst e
  have hi : j % 16 < 16 := Nat.mod_lt _ (by decide)
  have h1 := hc (j % 16) hi
  rw [add_add_] at h1
  have h2 := sxCs_at (l := l) (j := j / 16) (i := j % 16) (by omega) hi
  have he : j / 16 * 16 + j % 16 = j := by omega
  rw [he] at h1 h2
  rw [h1, ← h2, hv]
/-- Specifications appended to a row of the call's own: what the builtin does. -/
theorem run_sx {w : World} {base n c m d : Nat} {A A' : Option Addr} {l ys : List Sx} {ty : TypeId} (hown : SxO w base A n c l) (hy : ys.length = m) (hm : 0 < m) (R : SxR w A' d ys) (hs : ∀ y ∈ ys, SxN w (Ob A) y) (h63 : n + m ≤ 1000000) (hbase : base ≤ w.heap.size) :
    ∃ A2 c2 w', (Builtin.append_ #[32, 32] ty #[.slice A n c, .slice A' m d]).run Tryd.prog w = .ok (.slice A2 (n + m) c2) w' ∧ SxO w' base A2 (n + m) c2 (l ++ ys) ∧ w.grownBy w' (Value.slice A n c).ownBlock ∧ ∀ b, b < w.heap.size → Ob A b → Ob A2 b := by
  obtain ⟨j0, hi0, hz0, hz1, hz2⟩ := info_parts spec_info
  obtain ⟨ad, rfl, _⟩ := R.rd 0 (by omega)
  obtain ⟨g, cap, w', hr, h1, h2, h3, _⟩ := run_append_lies (P := Tryd.prog) w 32 ty base 51 j0 (.agg #[.int .u8 0, .int .u8 0, .int .i64 0, .int .u8 0, .string ⟨#[]⟩, .slice none 0 0, .int .u8 0, .int .u8 0, .int .u8 0, .int .i32 0, .string ⟨#[]⟩, .slice none 0 0, .bool false, .slice none 0 0, .slice none 0 0, .slice none 0 0]) 16 200 Tryd.underlying32 hi0 hz0 hz1 hz2 rfl (by omega) (.slice A n c) n (sxCs l) hown.own ad m d (sxCs ys) (by rw [sxCs_len, hy]) R.cells (sxCs_one fun y hy => (hs y hy).one) hm
    (by unfold maxLen; omega) (by omega) hbase w.heap.size rfl
  have hN : ∀ b, b < w.heap.size → Ob A b → Ob (some ⟨g, 0, none⟩) b := fun b hb n ad' e => by
    injection e with e
    subst e
    rcases h3 with h3 | h3
    · cases A with
      | none => simp [Value.ownBlock] at h3
      | some a =>
        have := n a rfl
        simp [Value.ownBlock] at h3
        show g ≠ b
        omega
    · show g ≠ b
      omega
  have hG : ∀ y, SxN w (Ob A) y → SxN w' (Ob (some ⟨g, 0, none⟩)) y := fun y t => by
    have t2 := t.mono (M := fun b => Ob (some ⟨g, 0, none⟩) b ∧ Ob A b) fun b hb n => ⟨hN b hb n, n⟩
    have t3 := t2.fr (Fr.ofG h2 (P := fun k => ∃ a, A = some a ∧ a.block = k) fun k e => by
      cases A with
      | none => simp [Value.ownBlock] at e
      | some a => simp [Value.ownBlock] at e; exact ⟨a, rfl, e⟩) fun k _ n ⟨a, e1, e2⟩ => n.2 a e1 e2
    exact t3.mono fun b _ n => n.1
  refine ⟨_, _, w', hr, ⟨by rw [sxCs_app]; exact h1, fun j hj => ?_⟩, h2, hN⟩
  rw [List.length_append] at hj
  by_cases hjl : j < l.length
  · rw [show (l ++ ys).getD j sx0 = l.getD j sx0 by simp [hjl, List.getElem?_append_left hjl]]
    exact hG _ (hown.sub j hjl)
  · rw [show (l ++ ys).getD j sx0 = ys.getD (j - l.length) sx0 by rw [List.getD_eq_getElem?_getD, List.getD_eq_getElem?_getD, List.getElem?_append_right (by omega)]]
    exact hG _ (hs _ (sx_mem (by omega)))
set_option maxRecDepth 100000 in
theorem run_sx_none {w : World} {base n c d : Nat} {A A' : Option Addr} {l : List Sx} {ty : TypeId} (hown : SxO w base A n c l) : (Builtin.append_ #[32, 32] ty #[.slice A n c, .slice A' 0 d]).run Tryd.prog w = .ok (.slice A n c) w := by
  obtain ⟨i0, hi0, hz0, hz1, hz2⟩ := info_parts spec_info
  rcases hown.own.2 with ⟨hv, h0⟩ | ⟨g, cap, cur, hv, _, _, hnc, _⟩
  · injection hv with h1 h2 h3
    subst h1; subst h3
    simp [Builtin.append_, run_underlying Tryd.underlying32, sizeOf, typeInfo, hi0, Builtin.lenOf, Builtin.firstCells, h0]
    rcases A' with _ | ad
    · simp
    · have hld := run_loadCells_list (P := Tryd.prog) w ad [] (by intro j u hj; simp at hj)
      simp only [List.length_nil] at hld
      simp [hld]
  · injection hv with h1 h2 h3
    subst h1; subst h3
    simp [Builtin.append_, run_underlying Tryd.underlying32, sizeOf, typeInfo, hi0, Builtin.lenOf, Builtin.firstCells, hnc, storeCells]
    rcases A' with _ | ad
    · simp [storeCells]
    · have hld := run_loadCells_list (P := Tryd.prog) w ad [] (by intro j u hj; simp at hj)
      simp only [List.length_nil] at hld
      simp [hld, storeCells]
/-- Specifications appended to a row of the call's own. -/
theorem app_sx {w : World} {ops : Array Oper} {rest : List Oper} {o : Oper} {a : Act} {Q : Exit → Act → World → Prop} (hgd : o.guard = none) (s x : Operand)
    (ho : o.op = .call { callee := .builtin .append, args := #[s, x], argTypes := #[32, 32] }) (base n c m d q : Nat) (A A' : Option Addr) (l ys : List Sx) (hs : a.eval s = .slice A n c) (hx : a.eval x = .slice A' m d)
    (hown : SxO w base A n c l) (hy : ys.length = m) (R : SxR w A' d ys) (hp : ∀ y ∈ ys, SxN w (Ob A) y) (hq : n + m = q) (h63 : q ≤ 1000000) (hbase : base ≤ w.heap.size)
    (h : ∀ A2 c2 w', SxO w' base A2 q c2 (l ++ ys) → w.grownBy w' (Value.slice A n c).ownBlock → (∀ b, b < w.heap.size → Ob A b → Ob A2 b) → wpList Tryd.prog ops Q rest (a.put o.dst (.slice A2 q c2)) w') : wpList Tryd.prog ops Q (o :: rest) a w := by
  subst hq
  refine wpList_plain hgd fun K hK => ?_
  unfold Oper.wp execOp
  rcases Nat.eq_zero_or_pos m with hm0 | hm0
  · subst hm0
    obtain rfl : ys = [] := List.eq_nil_of_length_eq_zero hy
    simp only [ho, resolve, invoke, builtin, Sem.run_bind, Sem.run_pure, Result.andThen_ok, List.map_toArray, List.map_cons, List.map_nil, hs, hx, run_sx_none hown]
    exact hK _ _ (h A c w (by rw [List.append_nil]; exact hown) (World.grownBy.refl w _) (fun _ _ h => h))
  · obtain ⟨A2, c2, w', hr, h1, h2, h3⟩ := run_sx (ty := o.type) hown hy hm0 R hp h63 hbase
    simp only [ho, resolve, invoke, builtin, Sem.run_bind, Sem.run_pure, Result.andThen_ok, List.map_toArray, List.map_cons, List.map_nil, hs, hx, hr]
    exact hK _ _ (h A2 c2 w' h1 h2 h3)
/-- A slice of texts that does not lie where the row lies. -/
theorem SS.ob {X Y : World} {A B : Option Addr} {n c d : Nat} {ns : List Bs} (h : SS X B d ns) (ho : ∀ ad, B = some ad → ns ≠ [] → Ob A ad.block) (g : X.grownBy Y (Value.slice A n c).ownBlock) : SS Y B d ns := by
  have f := Fr.ofG g (P := fun k => ∃ a, A = some a ∧ a.block = k) fun k e => by
    cases A with
    | none => simp [Value.ownBlock] at e
    | some a => simp [Value.ownBlock] at e; exact ⟨a, rfl, e⟩
  refine ⟨h.le, h.mx, fun j hj => ?_⟩
  obtain ⟨ad, e, hc⟩ := h.rd j hj
  exact ⟨ad, e, f.cell hc (by rw [add_block]; rintro ⟨a, e1, e2⟩; exact ho ad e (List.ne_nil_of_length_pos (by omega)) a e1 e2)⟩
theorem SxO.ob {w : World} {B n c : Nat} {A : Option Addr} {l : List Sx} (h : SxO w B A n c l) {b : Nat} (hb : w.heap.size ≤ b) : Ob A b := fun ad e => by
  subst e
  have := (World.ownsRow.lt h.own ad.block rfl).2
  omega
theorem SxO.lo {w : World} {B n c : Nat} {A : Option Addr} {l : List Sx} (h : SxO w B A n c l) {b : Nat} (hb : b < B) : Ob A b := fun ad e => by
  subst e
  have := (World.ownsRow.lt h.own ad.block rfl).1
  omega
/-- A specification of the call's own making. -/
def sxOf (x : Sp) (N : Option Addr) (c : Nat) (B : Option Addr) (d : Nat) : Sx := ⟨x, N, c, B, d, .int .u8 0, .string ⟨#[]⟩, .bool false, .slice none 0 0, .slice none 0 0, .slice none 0 0⟩
theorem sxOf_one (x : Sp) (N : Option Addr) (c : Nat) (B : Option Addr) (d : Nat) : SxOne (sxOf x N c B d) := by
  intro v hv
  simp only [sxC, sxOf, List.mem_cons, List.not_mem_nil, or_false] at hv
  rcases hv with rfl | rfl | rfl | rfl | rfl | rfl | rfl | rfl | rfl | rfl | rfl | rfl | rfl | rfl | rfl | rfl <;> rfl
theorem SxR.one {w : World} {q : Nat} {y : Sx} (h : BoxS w q 51 (sxC y).toArray) (v : SxV w y) : SxR w (some ⟨q, 0, none⟩) 1 [y] := by
  refine ⟨Nat.le_refl _, by simp [maxLen], fun j hj => ?_⟩
  have hj : j < 1 := hj
  obtain rfl : j = 0 := by omega
  refine ⟨_, rfl, fun i hi => ?_, v⟩
  rw [add_add_, add_plain, Nat.zero_mul, Nat.zero_add, Nat.zero_add, h.cell i, List.getElem?_toArray]
  rfl
/-- What is below stays below while a row of the call's own grows. -/
theorem SxO.bel {w v v2 : World} {B n c : Nat} {A : Option Addr} {l : List Sx} (b : Below w.heap.size w v) (h : SxO v B A n c l) (hB : w.heap.size ≤ B) (g : v.grownBy v2 (Value.slice A n c).ownBlock) : Below w.heap.size w v2 := bgrow b h.own hB g
/-- A specification is laid whole into the box that was made last. -/
theorem wp_store16 {w : World} {ops : Array Oper} {rest : List Oper} {o : Oper} {a : Act} {Q : Exit → Act → World → Prop} (hgd : o.guard = none) (y v : Operand) (ho : o.op = .store 51 y v) (hp : a.eval y = .pointer (some ⟨w.heap.size, 0, none⟩)) (c : Array Value) (hc : c.size = 16) (cs : Array Value) (hl : cs.size = 16) (h1 : cs.all (·.oneCell') = true) (hv : a.eval v = .agg cs)
    (h : wpList Tryd.prog ops Q rest (a.put o.dst undef) (w.alloc (.cells cs 51))) : wpList Tryd.prog ops Q (o :: rest) a (w.alloc (.cells c 51)) := by
  refine wpList_plain hgd fun K hK => ?_
  unfold Oper.wp execOp
  have hr := run_storeAt_new (P := Tryd.prog) w 51 c cs (by rw [hl]; kernel_rfl) (by rw [hc, hl]) h1
  simp only [ho, resolve, Sem.run_bind, Sem.run_pure, Result.andThen_ok, hp, hv, hr]
  exact hK _ _ h
theorem sx_all {y : Sx} (h : SxOne y) : (sxC y).toArray.all (·.oneCell') = true := by
  rw [Array.all_eq_true_iff_forall_mem]
  intro v hv
  exact h v (by simpa using hv)
end Go.Proofs.YtimbiobonigdmaaDoor
