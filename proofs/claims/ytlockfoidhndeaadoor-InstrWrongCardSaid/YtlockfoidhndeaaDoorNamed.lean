/- The instruction with a mnemonic, found by the program. -/
import Derived.Test.YtlockfoidhndeaaDoorIter
import Derived.Test.YtlockfoidhndeaaDoorRread
import Derived.WalkMore
namespace Go.Proofs.YtlockfoidhndeaaDoor
open Go Go.RowKit Go.Shelf
attribute [local go_sem] Oper.semAt_some

theorem wpIn_scope {n : Nat} {P : Program} {Q : Exit → Act → World → Prop} {a : Act} {w : World} {c : Code} (h : c.wpIn Fence.wide n P (Exit.noGoto Q) a w) : (Code.scope c).wpIn Fence.wide n P Q a w :=
  wpIn_wide.2 (wp_scope_straight (wpIn_wide.1 h))
/-- A box of several cells. -/
def BoxS (w : World) (k : Nat) (t : TypeId) (cs : Array Value) : Prop := w.heap[k]? = some (.cells cs t (0, 0))
theorem BoxS.lt {w : World} {k : Nat} {t : TypeId} {cs : Array Value} (h : BoxS w k t cs) : k < w.heap.size := (Array.getElem?_eq_some_iff.1 h).1
theorem BoxS.kept {X Y : World} {k : Nat} {t : TypeId} {cs : Array Value} {row : Option Nat} (h : BoxS X k t cs) (hg : X.grownBy Y row) (hr : ∀ r, row = some r → ∃ o : Obj, X.heap[r]? = some o ∧ o.isCells = false) : BoxS Y k t cs := by
  refine (hg.block k h.lt (fun e => ?_)).trans h
  obtain ⟨o, ho, hc⟩ := hr k e.symm
  rw [show X.heap[k]? = _ from h] at ho; cases ho; cases hc
theorem BoxS.grown {X Y : World} {k : Nat} {t : TypeId} {cs : Array Value} (h : BoxS X k t cs) (hg : X.grownBy Y none) : BoxS Y k t cs := h.kept hg (fun _ e => nomatch e)
theorem BoxS.cell {w : World} {k : Nat} {t : TypeId} {cs : Array Value} (h : BoxS w k t cs) (j : Nat) : w.cell? ⟨k, j, none⟩ = cs[j]? := by simp [World.cell?, show w.heap[k]? = _ from h]
theorem BoxS.frozen {w : World} {k : Nat} {t : TypeId} {cs : Array Value} (h : BoxS w k t cs) (j : Nat) : w.frozen? ⟨k, j, none⟩ = false := by simp [World.frozen?, show w.heap[k]? = _ from h]
theorem boxS_own {β : Type} (B : Nat) (t : TypeId) (f : β → Array Value) : Own (fun s W => BoxS W B t (f s)) := fun _ _ _ _ hs hg hrow => hs.kept hg hrow
theorem boxS_new (w : World) (t : TypeId) (cs : Array Value) : BoxS (w.alloc (.cells cs t)) w.heap.size t cs := by
  show (w.heap.push _)[w.heap.size]? = _
  simp
theorem boxS_set0 {W : World} {B : Nat} {t : TypeId} {a b : Value} (v : Value) (h : BoxS W B t #[a, b]) : BoxS (W.setCell ⟨B, 0, none⟩ v) B t #[v, b] := by
  obtain ⟨hlt, hk⟩ := Array.getElem?_eq_some_iff.1 h
  show (W.heap.modify B _)[B]? = _
  rw [Array.getElem?_eq_getElem (by rw [Array.size_modify]; exact hlt), Array.getElem_modify_self, hk]
  rfl
theorem boxS_set1 {W : World} {B : Nat} {t : TypeId} {a b : Value} (v : Value) (h : BoxS W B t #[a, b]) : BoxS (W.setCell ⟨B, 1, none⟩ v) B t #[a, v] := by
  obtain ⟨hlt, hk⟩ := Array.getElem?_eq_some_iff.1 h
  show (W.heap.modify B _)[B]? = _
  rw [Array.getElem?_eq_getElem (by rw [Array.size_modify]; exact hlt), Array.getElem_modify_self, hk]
  rfl
theorem boxS_other {W : World} {B B' j : Nat} {t : TypeId} {cs : Array Value} (h : BoxS W B t cs) (hne : B ≠ B') (v : Value) : BoxS (W.setCell ⟨B', j, none⟩ v) B t cs := (Below.heap_setCell W ⟨B', j, none⟩ v B hne).trans h
theorem boxed_other {W : World} {B B' j : Nat} {t : TypeId} {u : Value} (h : Boxed W B t u) (hne : B ≠ B') (v : Value) : Boxed (W.setCell ⟨B', j, none⟩ v) B t u := (Below.heap_setCell W ⟨B', j, none⟩ v B hne).trans h
theorem other_set {W : World} {D B' j : Nat} {o : Obj} (h : W.heap[D]? = some o) (hne : D ≠ B') (v : Value) : (W.setCell ⟨B', j, none⟩ v).heap[D]? = some o := (Below.heap_setCell W ⟨B', j, none⟩ v D hne).trans h
theorem bset {n : Nat} {w W : World} (h : Below n w W) {B j : Nat} (hB : n ≤ B) (v : Value) : Below n w (W.setCell ⟨B, j, none⟩ v) := h.setCell (p := ⟨B, j, none⟩) hB v
/-- The world behind the last statement. -/
theorem named_end {w W : World} {D : Nat} {a b q : Value} (hx : BoxS W (w.heap.size + 1) 23 #[a, b]) (hq : Boxed W (w.heap.size + 1 + 1) 4 q) (hB : Below w.heap.size w W) (hK : W.heap[D]? = some (.deferred (some []))) (hD : w.heap.size + 3 ≤ D) :
    ((((W.setCell ⟨w.heap.size + 1, 0, none⟩ a).setCell ⟨w.heap.size + 1, 1, none⟩ b).setCell ⟨w.heap.size + 1 + 1, 0, none⟩ q).drew).heap[D]? = some (.deferred (some [])) ∧
    (((((W.setCell ⟨w.heap.size + 1, 0, none⟩ a).setCell ⟨w.heap.size + 1, 1, none⟩ b).setCell ⟨w.heap.size + 1 + 1, 0, none⟩ q).drew).putObj D (.deferred none)).cell? ⟨w.heap.size + 1, 0, none⟩ = some a ∧
    (((((W.setCell ⟨w.heap.size + 1, 0, none⟩ a).setCell ⟨w.heap.size + 1, 1, none⟩ b).setCell ⟨w.heap.size + 1 + 1, 0, none⟩ q).drew).putObj D (.deferred none)).cell? ⟨w.heap.size + 1, 1, none⟩ = some b ∧
    (((((W.setCell ⟨w.heap.size + 1, 0, none⟩ a).setCell ⟨w.heap.size + 1, 1, none⟩ b).setCell ⟨w.heap.size + 1 + 1, 0, none⟩ q).drew).putObj D (.deferred none)).cell? ⟨w.heap.size + 1 + 1, 0, none⟩ = some q ∧
    Below w.heap.size w (((((W.setCell ⟨w.heap.size + 1, 0, none⟩ a).setCell ⟨w.heap.size + 1, 1, none⟩ b).setCell ⟨w.heap.size + 1 + 1, 0, none⟩ q).drew).putObj D (.deferred none)) := by
  have x3 := boxS_other (B' := w.heap.size + 1 + 1) (j := 0) (boxS_set1 b (boxS_set0 a hx)) (by omega) q
  have q3 := (boxed_other (B' := w.heap.size + 1) (j := 1) (boxed_other (B' := w.heap.size + 1) (j := 0) hq (by omega) a) (by omega) b).set q
  have k3 := other_set (B' := w.heap.size + 1 + 1) (j := 0) (other_set (B' := w.heap.size + 1) (j := 1) (other_set (B' := w.heap.size + 1) (j := 0) hK (by omega) a) (by omega) b) (by omega) q
  have b3 := bset (j := 0) (bset (j := 1) (bset (j := 0) hB (B := w.heap.size + 1) (by omega) a) (B := w.heap.size + 1) (by omega) b) (B := w.heap.size + 1 + 1) (by omega) q
  generalize (((W.setCell ⟨w.heap.size + 1, 0, none⟩ a).setCell ⟨w.heap.size + 1, 1, none⟩ b).setCell ⟨w.heap.size + 1 + 1, 0, none⟩ q) = V at *
  have hX : (V.drew).heap[w.heap.size + 1]? = some (.cells #[a, b] 23 (0, 0)) := x3
  have hQ : (V.drew).heap[w.heap.size + 1 + 1]? = some (.cells #[q] 4 (0, 0)) := q3
  have gX : (V.drew.putObj D (.deferred none)).heap[w.heap.size + 1]? = some (.cells #[a, b] 23 (0, 0)) := (World.putObj_heap_other (by omega)).trans hX
  have gQ : (V.drew.putObj D (.deferred none)).heap[w.heap.size + 1 + 1]? = some (.cells #[q] 4 (0, 0)) := (World.putObj_heap_other (by omega)).trans hQ
  refine ⟨k3, ?_, ?_, ?_, ?_⟩
  · simp [World.cell?, gX]
  · simp [World.cell?, gX]
  · simp [World.cell?, gQ]
  · exact b3.drew.trans (belowK_b (w := w) (Nat.le_refl _) _ D _ _ (by omega) k3 rfl rfl)
theorem kp2_b {n₀ b1 b2 : Nat} {w : World} (hn : n₀ ≤ w.heap.size) (W : World) (l : Nat) (o o' : Obj) (hl : w.heap.size ≤ l) (h : W.heap[l]? = some o) (hc : o.isCells = false) (hw : o.isWalk = false) : Kp2 n₀ b1 b2 W (W.putObj l o') :=
  ⟨belowK_b hn W l o o' hl h hc hw, fun B t v _ _ hv => hv.kept (grownBy_putObj' W l o') (fun e => by cases e; rw [show W.heap[l]? = _ from hv] at h; cases h; cases hc)⟩

theorem rows_stops (m b1 b2 : Nat) {w W0 : World} (hv : Vars w) (hW : Below w.heap.size w W0) (h1 : b1 < W0.heap.size) (h2 : b2 < W0.heap.size) :
    SeqStopsK Fence.wide (m + 2) Tryd.prog 34 #[] encP (Kp2 w.heap.size b1 b2) (fun ys => ys = insts) (fun pre => pre <+: insts) insts.length W0 := fun l J Jx _ hb hJ _ hY h0 =>
  rows_in m l b1 b2 hv (hW.trans (hb.mono hW.size)) (Nat.lt_of_lt_of_le h1 hb.size) (Nat.lt_of_lt_of_le h2 hb.size) J Jx
    (fun s X Y hs hg => hJ s X Y none hs hg (fun _ e => nomatch e)) (fun pre p W1 hj hl => yield_depth (hY pre p W1 hj hl)) h0

/-- What the search keeps: nothing has been found yet. -/
def IN (w : World) (s : ByteArray) (pre : List (Int × Int)) (W : World) : Prop :=
  (((Boxed W w.heap.size 9 (.string s) ∧ BoxS W (w.heap.size + 1) 23 #[.int .u8 0, .int .i32 0]) ∧ Boxed W (w.heap.size + 1 + 1) 4 (.bool false)) ∧ ∀ p ∈ pre, nm p.1 p.2 ≠ s.data.toList) ∧ Below w.heap.size w W
/-- What it leaves where it has found. -/
def IY (w : World) (s : ByteArray) (co : Code) (pre : List (Int × Int)) (W : World) : Prop :=
  (co = .exit 0 ∧ ∃ ini p, pre = ini ++ [p] ∧ nm p.1 p.2 = s.data.toList ∧ BoxS W (w.heap.size + 1) 23 #[.int .u8 p.1, .int .i32 p.2] ∧ Boxed W (w.heap.size + 1 + 1) 4 (.bool true)) ∧ Below w.heap.size w W
theorem in_own {w : World} {s : ByteArray} {B : Nat} (hB : w.heap.size ≤ B) : OwnFrom B (IN w s) :=
  OwnFrom.and (OwnFrom.and (OwnFrom.and (OwnFrom.and (Own.from (boxed_own _ _ _) _) (Own.from (boxS_own _ _ _) _)) (Own.from (boxed_own _ _ _) _)) (ownFrom_pure _ _)) (ownFrom_below (Nat.le_refl _) hB)
theorem iy_own {w : World} {s : ByteArray} {B : Nat} (hB : w.heap.size ≤ B) (co : Code) : OwnFrom B (IY w s co) :=
  OwnFrom.and (Own.from (fun s X Y row hs hg hr => by
    obtain ⟨hc, ini, p, e1, e2, e3, e4⟩ := hs
    exact ⟨hc, ini, p, e1, e2, e3.kept hg hr, boxed_own _ _ (fun (_ : Unit) => _) () X Y row e4 hg hr⟩) _) (ownFrom_below (Nat.le_refl _) hB)
theorem find_of_mem {p : Int × Int} (h : p ∈ insts) : findI (nm p.1 p.2) = some p := by
  have hA := List.all_eq_true.1 inst_facts _ h
  simp only [Bool.and_eq_true, beq_iff_eq] at hA
  exact hA.1.1.1.1.1.1.1
theorem find_none {l : List UInt8} (h : ∀ p ∈ insts, nm p.1 p.2 ≠ l) : findI l = none := by
  unfold findI
  rw [List.find?_eq_none]
  intro p hp
  simpa using h p hp
theorem nd_some {l : List UInt8} {p : Int × Int} (h : findI l = some p) : ndF l = p.1 ∧ ndA l = p.2 ∧ ndO l = true := by
  unfold ndF ndA ndO
  rw [h]
  exact ⟨rfl, rfl, rfl⟩
theorem nd_none {l : List UInt8} (h : findI l = none) : ndF l = 0 ∧ ndA l = 0 ∧ ndO l = false := by
  unfold ndF ndA ndO
  rw [h]
  exact ⟨rfl, rfl, rfl⟩
set_option maxRecDepth 100000 in
set_option maxHeartbeats 4000000 in
theorem Named_any (s : ByteArray) (w : World) (hv : Vars w) :
    Calls Tryd.prog 18 #[.string s] w fun e w' => e = .returned (.tuple #[.agg #[.int .u8 (ndF s.data.toList), .int .i32 (ndA s.data.toList)], .bool (ndO s.data.toList)]) ∧ Below w.heap.size w w' := by
  have HV := Lib.hid hv
  clear hv
  refine (callsIn_wide (n := 3)).1 ?_
  refine callsIn_of_wp_marks Tryd.func18 rfl trivial ?_ rfl
  simp only [Tryd.ntmps18, List.size_toArray, List.length_cons, List.length_nil, Nat.reduceAdd, Nat.reduceSub, Array.replicate_succ, Array.replicate_zero, List.push_toArray, List.append_toArray, List.nil_append, List.cons_append]
  gi_wp2
  refine wpIn_scope ?_
  gi_wp2
  refine wpIn_label ?_
  gi_wp2
  obtain ⟨W0, hW0⟩ : ∃ W0, ((w.alloc (.cells #[.string s] 9)).alloc (.cells #[.int .u8 0, .int .i32 0] 23)).alloc (.cells #[.bool false] 4) = W0 := ⟨_, rfl⟩
  have bS := ((Boxed.new w 9 (.string s)).alloc (.cells #[.int .u8 0, .int .i32 0] 23)).alloc (.cells #[.bool false] 4)
  have bX := (boxS_new (w.alloc (.cells #[.string s] 9)) 23 #[.int .u8 0, .int .i32 0]).grown (World.grownBy_alloc _ (.cells #[.bool false] 4) none)
  have bK := Boxed.new ((w.alloc (.cells #[.string s] 9)).alloc (.cells #[.int .u8 0, .int .i32 0] 23)) 4 (.bool false)
  simp only [World.size_alloc] at bX bK
  have hB0 : Below w.heap.size w (((w.alloc (.cells #[.string s] 9)).alloc (.cells #[.int .u8 0, .int .i32 0] 23)).alloc (.cells #[.bool false] 4)) := bal (bal (bal (b0 w) _) _) _
  have hsz : (((w.alloc (.cells #[.string s] 9)).alloc (.cells #[.int .u8 0, .int .i32 0] 23)).alloc (.cells #[.bool false] 4)).heap.size = w.heap.size + 3 := by simp
  rw [hW0] at bS bX bK hB0 hsz ⊢
  clear hW0
  refine wpIn_rangeFunc_ownH rfl (show 1 ≤ 3 by omega) (gf := 34) (lb := #[]) rfl trivial (enters_of Tryd.func34 (by kernel_rfl) rfl)
    (rows_stops 0 (w.heap.size + 1) (w.heap.size + 1 + 1) HV.out hB0 (by omega) (by omega)) kp2_t (kp2_b (by omega)) (Below.refl _ _) (fun _ => rfl)
    (IN w s) (IY w s) (in_own (by omega)) (iy_own (by omega)) ⟨⟨⟨⟨bS, bX⟩, bK⟩, fun _ h => nomatch h⟩, hB0⟩
    (fun p a' W => ∃ B1 B2, w.heap.size + 1 + 1 < B1 ∧ w.heap.size + 1 + 1 < B2 ∧ BoxS W B1 23 #[.int .u8 p.1, .int .i32 p.2] ∧ BoxS W B2 54 #[.string (strOf (nm p.1 p.2)), .int .i64 (tk p.1 p.2), .int .i64 (lv p.1 p.2)] ∧ a' = { tmps := #[.string s, .pointer (some ⟨w.heap.size, 0, none⟩), .pointer (some ⟨w.heap.size + 1, 0, none⟩), .pointer (some ⟨w.heap.size + 1 + 1, 0, none⟩), .pointer (some ⟨B1, 0, none⟩), .pointer (some ⟨B2, 0, none⟩), .agg #[.int .u8 p.1, .int .i32 p.2], .agg #[.string (strOf (nm p.1 p.2)), .int .i64 (tk p.1 p.2), .int .i64 (lv p.1 p.2)], undef, undef, undef, undef, undef, undef, undef], defers := [] })
    (fun x a' _ X Y row hs hg hr => by obtain ⟨B1, B2, h1, h2, h3, h4, h5⟩ := hs; exact ⟨B1, B2, h1, h2, h3.kept hg (fun r e => (hr r e).2), h4.kept hg (fun r e => (hr r e).2), h5⟩)
    ?assign ?body ?done ?stop
  case assign =>
    rintro l pre p W K hI hK
    unfold encP
    gi_wp2
    obtain ⟨⟨⟨⟨h1, h2⟩, h3⟩, h4⟩, hB⟩ := hI
    have hn := hB.size
    exact hK _ _ (((KeepsOthers.alloc _ _).trans (KeepsOthers.alloc _ _)).from _) ⟨((Below.refl _ W).alloc hn _).alloc (by simp; omega) _, fun B t v _ _ hv => (hv.alloc _).alloc _⟩
      ⟨⟨⟨⟨(h1.alloc _).alloc _, (h2.grown (World.grownBy_alloc _ _ none)).grown (World.grownBy_alloc _ _ none)⟩, (h3.alloc _).alloc _⟩, h4⟩, bal (bal hB _) _⟩
      ⟨W.heap.size, W.heap.size + 1, h3.lt, Nat.lt_succ_of_lt h3.lt, (boxS_new W _ _).grown (World.grownBy_alloc _ _ none), by have h := boxS_new (W.alloc (.cells #[.int .u8 p.1, .int .i32 p.2] 23)) 54 #[.string (strOf (nm p.1 p.2)), .int .i64 (tk p.1 p.2), .int .i64 (lv p.1 p.2)]; rw [World.size_alloc] at h; exact h, rfl⟩
  case body =>
    rintro l pre p a' W hl ⟨r, hr⟩ ⟨⟨⟨⟨h1, h2⟩, h3⟩, h4⟩, hB⟩ ⟨B1, B2, hl1, hl2, hx, hy, rfl⟩ hN
    have c1 := h1.cell
    have x0 := hx.cell 0
    have x1 := hx.cell 1
    have y0 := hy.cell 0
    have f0 := h2.frozen 0
    have f1 := h2.frozen 1
    have d0 := h2.cell 0
    have d1 := h2.cell 1
    have e0 := h3.cell
    have e1 := h3.frozen
    simp at x0 x1 y0 d0 d1
    by_cases hp : nm p.1 p.2 = s.data.toList
    · have hq : ((strOf (nm p.1 p.2)).toList == s.toList) = true := by rw [eq_strOf]; simpa using hp
      have HP := Lib.hid hp
      clear hp
      gi_wp2
      exact ⟨(((KeepsOthers.setCell _ _ _).trans (KeepsOthers.setCell _ _ _)).trans (KeepsOthers.setCell _ _ _)).from _,
        ⟨⟨rfl, pre, p, rfl, HP.out, boxS_other (boxS_set1 _ (boxS_set0 _ h2)) (by omega) _, (boxed_other (boxed_other h3 (by omega) _) (by omega) _).set _⟩, bset (bset (bset hB (by omega) _) (by omega) _) (by omega) _⟩⟩
    · have hq : ((strOf (nm p.1 p.2)).toList == s.toList) = false := by rw [eq_strOf]; simpa using hp
      have HP := Lib.hid hp
      clear hp
      gi_wp2
      exact ⟨(KeepsOthers.refl _).from _, ⟨Below.refl _ _, fun _ _ _ _ _ hv => hv⟩,
        ⟨⟨⟨⟨h1, h2⟩, h3⟩, fun p' hp' => (List.mem_append.1 hp').elim (h4 p') (fun h => by rw [List.mem_singleton.1 h]; exact HP.out)⟩, hB⟩⟩
  case done =>
    rintro D ys W hD rfl ⟨⟨⟨⟨h1, h2⟩, h3⟩, h4⟩, hB⟩ hK
    have f0 := h2.frozen 0
    have f1 := h2.frozen 1
    have d0 := h2.cell 0
    have d1 := h2.cell 1
    have e0 := h3.cell
    have e1 := h3.frozen
    simp at d0 d1
    obtain ⟨hK', k0, k1, k2, kg⟩ := named_end h2 h3 hB hK (by omega)
    obtain ⟨m1, m2, m3⟩ := nd_none (find_none h4)
    have M := Lib.hid (And.intro m1 (And.intro m2 m3))
    clear m1 m2 m3 h4
    gi_wp2
    gi_region
    all_goals gi_wp2
    rw [Exit.noGoto_ret]
    refine ⟨by simp, .inl ⟨_, _, rfl, run_takeDeferred hK', ?_⟩⟩
    refine ⟨.tuple #[.agg #[.int .u8 0, .int .i32 0], .bool false], ?_, ?_⟩
    · simp [results, Tryd.f18, go_sem, k0, k1, k2]
    · rw [M.out.1, M.out.2.1, M.out.2.2]
      exact ⟨rfl, kg⟩
  case stop =>
    rintro D co pre W hD hpre ⟨⟨rfl, ini, p, rfl, hp, h2, h3⟩, hB⟩ hK
    have f0 := h2.frozen 0
    have f1 := h2.frozen 1
    have d0 := h2.cell 0
    have d1 := h2.cell 1
    have e0 := h3.cell
    have e1 := h3.frozen
    simp at d0 d1
    obtain ⟨hK', k0, k1, k2, kg⟩ := named_end h2 h3 hB hK (by omega)
    have hm : p ∈ insts := hpre.subset (by simp)
    have hf := find_of_mem hm
    rw [hp] at hf
    obtain ⟨m1, m2, m3⟩ := nd_some hf
    have M := Lib.hid (And.intro m1 (And.intro m2 m3))
    clear m1 m2 m3 hf hp hpre
    gi_wp2
    gi_region
    all_goals gi_wp2
    rw [Exit.noGoto_ret]
    refine ⟨by simp, .inl ⟨_, _, rfl, run_takeDeferred hK', ?_⟩⟩
    refine ⟨.tuple #[.agg #[.int .u8 p.1, .int .i32 p.2], .bool true], ?_, ?_⟩
    · simp [results, Tryd.f18, go_sem, k0, k1, k2]
    · rw [M.out.1, M.out.2.1, M.out.2.2]
      exact ⟨rfl, kg⟩
end Go.Proofs.YtlockfoidhndeaaDoor
