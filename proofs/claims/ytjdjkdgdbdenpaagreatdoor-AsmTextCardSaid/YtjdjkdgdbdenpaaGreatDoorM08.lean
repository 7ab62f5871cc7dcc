/- The instruction with a mnemonic, found by the program. -/
import Derived.WalkMore
import Derived.RangeFuncNested
import Derived.RangeFuncBound
import Derived.RangeFuncCalls
import Derived.RangeFuncLeaves
import Derived.Shelf.Abstract
import Derived.Shelf.RegionOpen
import Derived.OwnWalkIn
import Derived.TacticsInMore
import Derived.LoopNIn
import Derived.LoopIn
import Derived.Maps.AppendAt
import Derived.Lib.CutLaws
import Derived.Test.YtjdjkdgdbdenpaaGreatDoorM07
import Derived.Test.YtjdjkdgdbdenpaaGreatDoorM02
import Derived.Test.YtjdjkdgdbdenpaaGreatDoorShelf
import Derived.Test.YtjdjkdgdbdenpaaGreatDoorM01
import Derived.Test.YtjdjkdgdbdenpaaGreatDoorM05
import Derived.Test.YtjdjkdgdbdenpaaGreatDoorM06
set_option linter.unusedVariables false
set_option linter.unusedSimpArgs false
namespace Go.Proofs.YtjdjkdgdbdenpaaGreatDoor
open Go Go.RowKit Go.Shelf
attribute [local go_sem] Oper.semAt_some

theorem wpIn_scope {n : Nat} {P : Program} {Q : Exit → Act → World → Prop} {a : Act} {w : World} {c : Code} (h : c.wpIn Fence.wide n P (Exit.noGoto Q) a w) : (Code.scope c).wpIn Fence.wide n P Q a w :=
  wpIn_wide.2 (wp_scope_straight (wpIn_wide.1 h))
/-- A box of several cells. -/
def BoxS (w : World) (k : Nat) (t : TypeId) (cs : Array Value) : Prop := w.heap[k]? = some (.cells cs t (0, 0))
theorem BoxS.lt {w : World} {k : Nat} {t : TypeId} {cs : Array Value} (h : BoxS w k t cs) : k < w.heap.size := (Array.getElem?_eq_some_iff.1 h).1
theorem BoxS.kept {X Y : World} {k : Nat} {t : TypeId} {cs : Array Value} {row : Option Nat} (h : BoxS X k t cs) (hg : X.grownBy Y row) (hr : ∀ r, row = some r → ∃ o : Obj, X.heap[r]? = some o ∧ o.isCells = false) : BoxS Y k t cs := by
  refine (hg.block k h.lt (fun e => ?_)).trans h
  obtain ⟨o, ho, hc⟩ := hr k e.symm
  rw [show X.heap[k]? = _ from h] at ho; cases ho; cases hc
theorem BoxS.grown {X Y : World} {k : Nat} {t : TypeId} {cs : Array Value} (h : BoxS X k t cs) (hg : X.grownBy Y none) : BoxS Y k t cs := h.kept hg (fun _ e => (by cases e))
theorem BoxS.cell {w : World} {k : Nat} {t : TypeId} {cs : Array Value} (h : BoxS w k t cs) (j : Nat) : w.cell? ⟨k, j, none⟩ = cs[j]? := by simp [World.cell?, show w.heap[k]? = _ from h]
theorem BoxS.frozen {w : World} {k : Nat} {t : TypeId} {cs : Array Value} (h : BoxS w k t cs) (j : Nat) : w.frozen? ⟨k, j, none⟩ = false := by simp [World.frozen?, show w.heap[k]? = _ from h]
theorem boxS_own {β : Type} (B : Nat) (t : TypeId) (f : β → Array Value) : Own (fun s W => BoxS W B t (f s)) := fun _ _ _ _ hs hg hrow => hs.kept hg hrow
theorem boxS_new (w : World) (t : TypeId) (cs : Array Value) : BoxS (w.alloc (.cells cs t)) w.heap.size t cs := by
  show (w.heap.push _)[w.heap.size]? = _
  simp
theorem boxS_set0 {W : World} {B : Nat} {t : TypeId} {a b : Value} (v : Value) (h : BoxS W B t #[a, b]) : BoxS (W.setCell ⟨B, 0, none⟩ v) B t #[v, b] := by
  obtain ⟨hlt, hk⟩ := Array.getElem?_eq_some_iff.1 h
  show (W.heap.modify B _)[B]? = _
  rw [Array.getElem?_eq_getElem (by rw [Array.size_modify]; exact hlt), Array.getElem_modify_self, hk]
  rfl
theorem boxS_set1 {W : World} {B : Nat} {t : TypeId} {a b : Value} (v : Value) (h : BoxS W B t #[a, b]) : BoxS (W.setCell ⟨B, 1, none⟩ v) B t #[a, v] := by
  obtain ⟨hlt, hk⟩ := Array.getElem?_eq_some_iff.1 h
  show (W.heap.modify B _)[B]? = _
  rw [Array.getElem?_eq_getElem (by rw [Array.size_modify]; exact hlt), Array.getElem_modify_self, hk]
  rfl
theorem boxS_other {W : World} {B B' j : Nat} {t : TypeId} {cs : Array Value} (h : BoxS W B t cs) (hne : B ≠ B') (v : Value) : BoxS (W.setCell ⟨B', j, none⟩ v) B t cs := (Below.heap_setCell W ⟨B', j, none⟩ v B hne).trans h
theorem boxed_other {W : World} {B B' j : Nat} {t : TypeId} {u : Value} (h : Boxed W B t u) (hne : B ≠ B') (v : Value) : Boxed (W.setCell ⟨B', j, none⟩ v) B t u := (Below.heap_setCell W ⟨B', j, none⟩ v B hne).trans h
theorem other_set {W : World} {D B' j : Nat} {o : Obj} (h : W.heap[D]? = some o) (hne : D ≠ B') (v : Value) : (W.setCell ⟨B', j, none⟩ v).heap[D]? = some o := (Below.heap_setCell W ⟨B', j, none⟩ v D hne).trans h
theorem bset {n : Nat} {w W : World} (h : Below n w W) {B j : Nat} (hB : n ≤ B) (v : Value) : Below n w (W.setCell ⟨B, j, none⟩ v) := h.setCell (p := ⟨B, j, none⟩) hB v
/-- The world behind the last statement. -/
theorem named_end {w W : World} {D : Nat} {a b q : Value} (hx : BoxS W (w.heap.size + 1) 70 #[a, b]) (hq : Boxed W (w.heap.size + 1 + 1) 4 q) (hB : Below w.heap.size w W) (hK : W.heap[D]? = some (.deferred (some []))) (hD : w.heap.size + 3 ≤ D) :
    ((((W.setCell ⟨w.heap.size + 1, 0, none⟩ a).setCell ⟨w.heap.size + 1, 1, none⟩ b).setCell ⟨w.heap.size + 1 + 1, 0, none⟩ q).drew).heap[D]? = some (.deferred (some [])) ∧
    (((((W.setCell ⟨w.heap.size + 1, 0, none⟩ a).setCell ⟨w.heap.size + 1, 1, none⟩ b).setCell ⟨w.heap.size + 1 + 1, 0, none⟩ q).drew).putObj D (.deferred none)).cell? ⟨w.heap.size + 1, 0, none⟩ = some a ∧
    (((((W.setCell ⟨w.heap.size + 1, 0, none⟩ a).setCell ⟨w.heap.size + 1, 1, none⟩ b).setCell ⟨w.heap.size + 1 + 1, 0, none⟩ q).drew).putObj D (.deferred none)).cell? ⟨w.heap.size + 1, 1, none⟩ = some b ∧
    (((((W.setCell ⟨w.heap.size + 1, 0, none⟩ a).setCell ⟨w.heap.size + 1, 1, none⟩ b).setCell ⟨w.heap.size + 1 + 1, 0, none⟩ q).drew).putObj D (.deferred none)).cell? ⟨w.heap.size + 1 + 1, 0, none⟩ = some q ∧
    Below w.heap.size w (((((W.setCell ⟨w.heap.size + 1, 0, none⟩ a).setCell ⟨w.heap.size + 1, 1, none⟩ b).setCell ⟨w.heap.size + 1 + 1, 0, none⟩ q).drew).putObj D (.deferred none)) := by
  have x3 := boxS_other (B' := w.heap.size + 1 + 1) (j := 0) (boxS_set1 b (boxS_set0 a hx)) (by omega) q
  have q3 := (boxed_other (B' := w.heap.size + 1) (j := 1) (boxed_other (B' := w.heap.size + 1) (j := 0) hq (by omega) a) (by omega) b).set q
  have k3 := other_set (B' := w.heap.size + 1 + 1) (j := 0) (other_set (B' := w.heap.size + 1) (j := 1) (other_set (B' := w.heap.size + 1) (j := 0) hK (by omega) a) (by omega) b) (by omega) q
  have b3 := bset (j := 0) (bset (j := 1) (bset (j := 0) hB (B := w.heap.size + 1) (by omega) a) (B := w.heap.size + 1) (by omega) b) (B := w.heap.size + 1 + 1) (by omega) q
  generalize (((W.setCell ⟨w.heap.size + 1, 0, none⟩ a).setCell ⟨w.heap.size + 1, 1, none⟩ b).setCell ⟨w.heap.size + 1 + 1, 0, none⟩ q) = V at *
  have hX : (V.drew).heap[w.heap.size + 1]? = some (.cells #[a, b] 70 (0, 0)) := x3
  have hQ : (V.drew).heap[w.heap.size + 1 + 1]? = some (.cells #[q] 4 (0, 0)) := q3
  have gX : (V.drew.putObj D (.deferred none)).heap[w.heap.size + 1]? = some (.cells #[a, b] 70 (0, 0)) := (World.putObj_heap_other (by omega)).trans hX
  have gQ : (V.drew.putObj D (.deferred none)).heap[w.heap.size + 1 + 1]? = some (.cells #[q] 4 (0, 0)) := (World.putObj_heap_other (by omega)).trans hQ
  refine ⟨k3, ?_, ?_, ?_, ?_⟩
  · simp [World.cell?, gX]
  · simp [World.cell?, gX]
  · simp [World.cell?, gQ]
  · exact b3.drew.trans (belowK_b (w := w) (Nat.le_refl _) _ D _ _ (by omega) k3 rfl rfl)
theorem kp2_b {n₀ b1 b2 : Nat} {w : World} (hn : n₀ ≤ w.heap.size) (W : World) (l : Nat) (o o' : Obj) (hl : w.heap.size ≤ l) (h : W.heap[l]? = some o) (hc : o.isCells = false) (hw : o.isWalk = false) : Kp2 n₀ b1 b2 W (W.putObj l o') :=
  ⟨belowK_b hn W l o o' hl h hc hw, fun B t v _ _ hv => hv.kept (grownBy_putObj' W l o') (fun e => by cases e; rw [show W.heap[l]? = _ from hv] at h; cases h; cases hc)⟩

theorem rows_stops (m b1 b2 : Nat) {w W0 : World} (hv : Vars w) (hW : Below w.heap.size w W0) (h1 : b1 < W0.heap.size) (h2 : b2 < W0.heap.size) :
    SeqStopsK Fence.wide (m + 2) Tryz.prog 92 #[] encP (Kp2 w.heap.size b1 b2) (fun ys => ys = insts) (fun pre => pre <+: insts) insts.length W0 := fun l J Jx _ hb hJ _ hY h0 =>
  rows_in m l b1 b2 hv (hW.trans (hb.mono hW.size)) (Nat.lt_of_lt_of_le h1 hb.size) (Nat.lt_of_lt_of_le h2 hb.size) J Jx
    (fun s X Y hs hg => hJ s X Y none hs hg (fun _ e => (by cases e))) (fun pre p W1 hj hl => yield_depth (hY pre p W1 hj hl)) h0

/-- What the search keeps: nothing has been found yet. -/
def IN (w : World) (s : ByteArray) (pre : List (Int × Int)) (W : World) : Prop :=
  (((Boxed W w.heap.size 9 (.string s) ∧ BoxS W (w.heap.size + 1) 70 #[.int .u8 0, .int .i32 0]) ∧ Boxed W (w.heap.size + 1 + 1) 4 (.bool false)) ∧ ∀ p ∈ pre, nm p.1 p.2 ≠ s.data.toList) ∧ Below w.heap.size w W
/-- What it leaves where it has found. -/
def IY (w : World) (s : ByteArray) (co : Code) (pre : List (Int × Int)) (W : World) : Prop :=
  (co = .exit 0 ∧ ∃ ini p, pre = ini ++ [p] ∧ nm p.1 p.2 = s.data.toList ∧ BoxS W (w.heap.size + 1) 70 #[.int .u8 p.1, .int .i32 p.2] ∧ Boxed W (w.heap.size + 1 + 1) 4 (.bool true)) ∧ Below w.heap.size w W
theorem in_own {w : World} {s : ByteArray} {B : Nat} (hB : w.heap.size ≤ B) : OwnFrom B (IN w s) :=
  OwnFrom.and (OwnFrom.and (OwnFrom.and (OwnFrom.and (Own.from (boxed_own _ _ _) _) (Own.from (boxS_own _ _ _) _)) (Own.from (boxed_own _ _ _) _)) (ownFrom_pure _ _)) (ownFrom_below (Nat.le_refl _) hB)
theorem iy_own {w : World} {s : ByteArray} {B : Nat} (hB : w.heap.size ≤ B) (co : Code) : OwnFrom B (IY w s co) :=
  OwnFrom.and (Own.from (fun s X Y row hs hg hr => by
    obtain ⟨hc, ini, p, e1, e2, e3, e4⟩ := hs
    exact ⟨hc, ini, p, e1, e2, e3.kept hg hr, boxed_own _ _ (fun (_ : Unit) => _) () X Y row e4 hg hr⟩) _) (ownFrom_below (Nat.le_refl _) hB)
theorem find_of_mem {p : Int × Int} (h : p ∈ insts) : findI (nm p.1 p.2) = some p := by
  have hA := List.all_eq_true.1 inst_facts _ h
  simp only [Bool.and_eq_true, beq_iff_eq] at hA
  exact hA.1.1.1.1.1.1.1
theorem find_none {l : List UInt8} (h : ∀ p ∈ insts, nm p.1 p.2 ≠ l) : findI l = none := by
  unfold findI
  rw [List.find?_eq_none]
  intro p hp
  simpa using h p hp
theorem nd_some {l : List UInt8} {p : Int × Int} (h : findI l = some p) : ndF l = p.1 ∧ ndA l = p.2 ∧ ndO l = true := by
  unfold ndF ndA ndO
  rw [h]
  exact ⟨rfl, rfl, rfl⟩
theorem nd_none {l : List UInt8} (h : findI l = none) : ndF l = 0 ∧ ndA l = 0 ∧ ndO l = false := by
  unfold ndF ndA ndO
  rw [h]
  exact ⟨rfl, rfl, rfl⟩
set_option maxRecDepth 100000 in
set_option maxHeartbeats 4000000 in
theorem Named_any (s : ByteArray) (w : World) (hv : Vars w) :
    Calls Tryz.prog 80 #[.string s] w fun e w' => e = .returned (.tuple #[.agg #[.int .u8 (ndF s.data.toList), .int .i32 (ndA s.data.toList)], .bool (ndO s.data.toList)]) ∧ Below w.heap.size w w' := by
  have HV := Lib.hid hv
  clear hv
  refine (callsIn_wide (n := 3)).1 ?_
  refine callsIn_of_wp_marks Tryz.func80 rfl trivial ?_ rfl
  simp only [Tryz.ntmps80, List.size_toArray, List.length_cons, List.length_nil, Nat.reduceAdd, Nat.reduceSub, Array.replicate_succ, Array.replicate_zero, List.push_toArray, List.append_toArray, List.nil_append, List.cons_append]
  gi_wp2
  refine wpIn_scope ?_
  gi_wp2
  refine wpIn_label ?_
  gi_wp2
  obtain ⟨W0, hW0⟩ : ∃ W0, ((w.alloc (.cells #[.string s] 9)).alloc (.cells #[.int .u8 0, .int .i32 0] 70)).alloc (.cells #[.bool false] 4) = W0 := ⟨_, rfl⟩
  have bS := ((Boxed.new w 9 (.string s)).alloc (.cells #[.int .u8 0, .int .i32 0] 70)).alloc (.cells #[.bool false] 4)
  have bX := (boxS_new (w.alloc (.cells #[.string s] 9)) 70 #[.int .u8 0, .int .i32 0]).grown (World.grownBy_alloc _ (.cells #[.bool false] 4) none)
  have bK := Boxed.new ((w.alloc (.cells #[.string s] 9)).alloc (.cells #[.int .u8 0, .int .i32 0] 70)) 4 (.bool false)
  simp only [World.size_alloc] at bX bK
  have hB0 : Below w.heap.size w (((w.alloc (.cells #[.string s] 9)).alloc (.cells #[.int .u8 0, .int .i32 0] 70)).alloc (.cells #[.bool false] 4)) := bal (bal (bal (b0 w) _) _) _
  have hsz : (((w.alloc (.cells #[.string s] 9)).alloc (.cells #[.int .u8 0, .int .i32 0] 70)).alloc (.cells #[.bool false] 4)).heap.size = w.heap.size + 3 := by simp
  rw [hW0] at bS bX bK hB0 hsz ⊢
  clear hW0
  refine wpIn_rangeFunc_ownH rfl (show 1 ≤ 3 by omega) (gf := 92) (lb := #[]) rfl trivial (enters_of Tryz.func92 (by kernel_rfl) rfl)
    (rows_stops 0 (w.heap.size + 1) (w.heap.size + 1 + 1) HV.out hB0 (by omega) (by omega)) kp2_t (kp2_b (by omega)) (Below.refl _ _) (fun _ => rfl)
    (IN w s) (IY w s) (in_own (by omega)) (iy_own (by omega)) ⟨⟨⟨⟨bS, bX⟩, bK⟩, fun _ h => (by cases h)⟩, hB0⟩
    (fun p a' W => ∃ B1 B2, w.heap.size + 1 + 1 < B1 ∧ w.heap.size + 1 + 1 < B2 ∧ BoxS W B1 70 #[.int .u8 p.1, .int .i32 p.2] ∧ BoxS W B2 125 #[.string (strOf (nm p.1 p.2)), .int .i64 (tk p.1 p.2), .int .i64 (lv p.1 p.2)] ∧ a' = { tmps := #[.string s, .pointer (some ⟨w.heap.size, 0, none⟩), .pointer (some ⟨w.heap.size + 1, 0, none⟩), .pointer (some ⟨w.heap.size + 1 + 1, 0, none⟩), .pointer (some ⟨B1, 0, none⟩), .pointer (some ⟨B2, 0, none⟩), .agg #[.int .u8 p.1, .int .i32 p.2], .agg #[.string (strOf (nm p.1 p.2)), .int .i64 (tk p.1 p.2), .int .i64 (lv p.1 p.2)], undef, undef, undef, undef, undef, undef, undef], defers := [] })
    (fun x a' _ X Y row hs hg hr => by obtain ⟨B1, B2, h1, h2, h3, h4, h5⟩ := hs; exact ⟨B1, B2, h1, h2, h3.kept hg (fun r e => (hr r e).2), h4.kept hg (fun r e => (hr r e).2), h5⟩)
    ?assign ?body ?done ?stop
  case assign =>
    rintro l pre p W K hI hK
    unfold encP
    gi_wp2
    obtain ⟨⟨⟨⟨h1, h2⟩, h3⟩, h4⟩, hB⟩ := hI
    have hn := hB.size
    exact hK _ _ (((KeepsOthers.alloc _ _).trans (KeepsOthers.alloc _ _)).from _) ⟨((Below.refl _ W).alloc hn _).alloc (by simp; omega) _, fun B t v _ _ hv => (hv.alloc _).alloc _⟩
      ⟨⟨⟨⟨(h1.alloc _).alloc _, (h2.grown (World.grownBy_alloc _ _ none)).grown (World.grownBy_alloc _ _ none)⟩, (h3.alloc _).alloc _⟩, h4⟩, bal (bal hB _) _⟩
      ⟨W.heap.size, W.heap.size + 1, h3.lt, Nat.lt_succ_of_lt h3.lt, (boxS_new W _ _).grown (World.grownBy_alloc _ _ none), by have h := boxS_new (W.alloc (.cells #[.int .u8 p.1, .int .i32 p.2] 70)) 125 #[.string (strOf (nm p.1 p.2)), .int .i64 (tk p.1 p.2), .int .i64 (lv p.1 p.2)]; rw [World.size_alloc] at h; exact h, rfl⟩
  case body =>
    rintro l pre p a' W hl ⟨r, hr⟩ ⟨⟨⟨⟨h1, h2⟩, h3⟩, h4⟩, hB⟩ ⟨B1, B2, hl1, hl2, hx, hy, rfl⟩ hN
    have c1 := h1.cell
    have x0 := hx.cell 0
    have x1 := hx.cell 1
    have y0 := hy.cell 0
    have f0 := h2.frozen 0
    have f1 := h2.frozen 1
    have d0 := h2.cell 0
    have d1 := h2.cell 1
    have e0 := h3.cell
    have e1 := h3.frozen
    simp at x0 x1 y0 d0 d1
    by_cases hp : nm p.1 p.2 = s.data.toList
    · have hq : ((strOf (nm p.1 p.2)).toList == s.toList) = true := by rw [eq_strOf]; simpa using hp
      have HP := Lib.hid hp
      clear hp
      gi_wp2
      exact ⟨(((KeepsOthers.setCell _ _ _).trans (KeepsOthers.setCell _ _ _)).trans (KeepsOthers.setCell _ _ _)).from _,
        ⟨⟨rfl, pre, p, rfl, HP.out, boxS_other (boxS_set1 _ (boxS_set0 _ h2)) (by omega) _, (boxed_other (boxed_other h3 (by omega) _) (by omega) _).set _⟩, bset (bset (bset hB (by omega) _) (by omega) _) (by omega) _⟩⟩
    · have hq : ((strOf (nm p.1 p.2)).toList == s.toList) = false := by rw [eq_strOf]; simpa using hp
      have HP := Lib.hid hp
      clear hp
      gi_wp2
      exact ⟨(KeepsOthers.refl _).from _, ⟨Below.refl _ _, fun _ _ _ _ _ hv => hv⟩,
        ⟨⟨⟨⟨h1, h2⟩, h3⟩, fun p' hp' => (List.mem_append.1 hp').elim (h4 p') (fun h => by rw [List.mem_singleton.1 h]; exact HP.out)⟩, hB⟩⟩
  case done =>
    rintro D ys W hD rfl ⟨⟨⟨⟨h1, h2⟩, h3⟩, h4⟩, hB⟩ hK
    have f0 := h2.frozen 0
    have f1 := h2.frozen 1
    have d0 := h2.cell 0
    have d1 := h2.cell 1
    have e0 := h3.cell
    have e1 := h3.frozen
    simp at d0 d1
    obtain ⟨hK', k0, k1, k2, kg⟩ := named_end h2 h3 hB hK (by omega)
    obtain ⟨m1, m2, m3⟩ := nd_none (find_none h4)
    have M := Lib.hid (And.intro m1 (And.intro m2 m3))
    clear m1 m2 m3 h4
    gi_wp2
    gi_region
    all_goals gi_wp2
    rw [Exit.noGoto_ret]
    refine ⟨by simp, .inl ⟨_, _, rfl, run_takeDeferred hK', ?_⟩⟩
    refine ⟨.tuple #[.agg #[.int .u8 0, .int .i32 0], .bool false], ?_, ?_⟩
    · simp [results, Tryz.f80, go_sem, k0, k1, k2]
    · rw [M.out.1, M.out.2.1, M.out.2.2]
      exact ⟨rfl, kg⟩
  case stop =>
    rintro D co pre W hD hpre ⟨⟨rfl, ini, p, rfl, hp, h2, h3⟩, hB⟩ hK
    have f0 := h2.frozen 0
    have f1 := h2.frozen 1
    have d0 := h2.cell 0
    have d1 := h2.cell 1
    have e0 := h3.cell
    have e1 := h3.frozen
    simp at d0 d1
    obtain ⟨hK', k0, k1, k2, kg⟩ := named_end h2 h3 hB hK (by omega)
    have hm : p ∈ insts := hpre.subset (by simp)
    have hf := find_of_mem hm
    rw [hp] at hf
    obtain ⟨m1, m2, m3⟩ := nd_some hf
    have M := Lib.hid (And.intro m1 (And.intro m2 m3))
    clear m1 m2 m3 hf hp hpre
    gi_wp2
    gi_region
    all_goals gi_wp2
    rw [Exit.noGoto_ret]
    refine ⟨by simp, .inl ⟨_, _, rfl, run_takeDeferred hK', ?_⟩⟩
    refine ⟨.tuple #[.agg #[.int .u8 p.1, .int .i32 p.2], .bool true], ?_, ?_⟩
    · simp [results, Tryz.f80, go_sem, k0, k1, k2]
    · rw [M.out.1, M.out.2.1, M.out.2.2]
      exact ⟨rfl, kg⟩
end Go.Proofs.YtjdjkdgdbdenpaaGreatDoor
/- A range over a function whose iterator keeps state of its own in boxes of one string or one number: a law of the walk. -/
namespace Go.Proofs.YtjdjkdgdbdenpaaGreatDoor
open Go Go.RowKit Go.Shelf

/-- What an iterator may turn between two rounds: no cells, or a box of one string or of one number. -/
def Soft (o : Obj) : Prop := o.isCells = false ∨ (∃ v, o = .cells #[v] 9 (0, 0)) ∨ ∃ v, o = .cells #[v] 3 (0, 0)
theorem soft_str {W : World} {B : Nat} {v : Value} (h : Boxed W B 9 v) : ∃ o, W.heap[B]? = some o ∧ Soft o := ⟨_, h, .inr (.inl ⟨_, rfl⟩)⟩
theorem soft_int {W : World} {B : Nat} {v : Value} (h : Boxed W B 3 v) : ∃ o, W.heap[B]? = some o ∧ Soft o := ⟨_, h, .inr (.inr ⟨_, rfl⟩)⟩
/-- What stands whatever is turned among the blocks of 'ok'. -/
def Abd {β : Type} (ok : Nat → Prop) (J : β → World → Prop) : Prop := ∀ s X Y row, J s X → X.grownBy Y row → (∀ r, row = some r → ok r ∧ ∃ o, X.heap[r]? = some o ∧ Soft o) → J s Y
theorem Abd.grown {β : Type} {ok : Nat → Prop} {J : β → World → Prop} (h : Abd ok J) {s : β} {X Y : World} (hs : J s X) (hg : X.grownBy Y none) : J s Y := h s X Y none hs hg (fun _ e => (by cases e))
theorem Abd.put {β : Type} {ok : Nat → Prop} {J : β → World → Prop} (h : Abd ok J) {s : β} {X : World} {l : Nat} {o : Obj} (o' : Obj) (hs : J s X) (hB : ok l) (hl : X.heap[l]? = some o) (ho : o.isCells = false) : J s (X.putObj l o') :=
  h s X _ (some l) hs (grownBy_putObj' X l o') (fun r e => by cases e; exact ⟨hB, o, hl, .inl ho⟩)
theorem Abd.and {β : Type} {ok : Nat → Prop} {J K : β → World → Prop} (h : Abd ok J) (k : Abd ok K) : Abd ok (fun s W => J s W ∧ K s W) := fun s X Y row hs hg hr => ⟨h s X Y row hs.1 hg hr, k s X Y row hs.2 hg hr⟩
theorem abd_pure {β : Type} (ok : Nat → Prop) (p : β → Prop) : Abd ok (fun s (_ : World) => p s) := fun _ _ _ _ hs _ _ => hs
/-- A box that is none of those. -/
theorem abd_box {β : Type} {ok : Nat → Prop} {B : Nat} (hB : ¬ ok B) (t : TypeId) (f : β → Value) : Abd ok (fun s W => Boxed W B t (f s)) := fun s X Y row hs hg hr =>
  Boxed.kept hs hg (fun e => hB (hr B e.symm).1)
theorem abd_below {β : Type} {ok : Nat → Prop} {n : Nat} {w : World} (hn : n ≤ w.heap.size) (h : ∀ r, ok r → n ≤ r) : Abd ok (fun (_ : β) W => Below n w W) := fun s X Y row hs hg hr =>
  Below.grown hs hg (Nat.le_trans hn hs.size) (fun k e => h k (hr k e).1)

/-- The contract of such an iterator; 'own': its own boxes that lay ahead of the call. -/
def SeqS {α : Type} (P : Program) (own : Nat → Prop) (gf : Nat) (lb : Array Value) (encs : α → Array Value) (Kp : World → World → Prop) (S Sp : List α → Prop) (w : World) : Prop :=
  ∀ (l : Nat) (J Jx : List α → World → Prop) (W : World), Below w.heap.size w W → Abd (fun r => own r ∨ W.heap.size ≤ r) J → Abd (fun r => own r ∨ W.heap.size ≤ r) Jx →
    (∀ pre x V, J pre V → Sp (pre ++ [x]) → YieldAt Fence.wide 0 P l (encs x) V fun e V' => ((e = .returned (.bool true) ∧ J (pre ++ [x]) V') ∨ (e = .returned (.bool false) ∧ Jx (pre ++ [x]) V')) ∧ Kp V V') →
    J [] W →
    CallsIn Fence.wide 0 P gf (#[.func (.yield l) #[] #[]] ++ lb) W fun e W' => (∃ v, e = .returned v) ∧ ((∃ xs, S xs ∧ J xs W') ∨ ∃ pre, Sp pre ∧ Jx pre W')

/-- How the body of such a loop may be left. -/
def postS {α : Type} (B : Nat) (Kp : World → World → Prop) (I : List α → World → Prop) (Ix : Code → List α → World → Prop) (xs : List α) (W : World) : Exit → Act → World → Prop
  | .normal, _, V => (KeepsFrom B W V ∧ Kp W V) ∧ I xs V
  | .ret, _, V => (KeepsFrom B W V ∧ Kp W V) ∧ Ix .ret xs V
  | .exit k, _, V => (KeepsFrom B W V ∧ Kp W V) ∧ Ix (.exit k) xs V
  | .goto k, _, V => (KeepsFrom B W V ∧ Kp W V) ∧ Ix (.goto k) xs V
  | .panic _, _, _ => False
  | .outgrown, _, _ => False

theorem range_soft {α : Type} {P : Program} {n : Nat} {g : Operand} {ps : Array Tmp} {asg body : Code} {Q : Exit → Act → World → Prop} {a : Act} {w : World} {own : Nat → Prop} (hown : ∀ r, own r → r < w.heap.size)
    {gf : Nat} {lb : Array Value} (hg : a.eval g = .func (.func gf) #[] lb) (eg : ∀ args w, (callFunc gf args).run P w = .ok (.enter gf args) w)
    {encs : α → Array Value} {Kp : World → World → Prop} {S Sp : List α → Prop} {w0 : World} (hseq : SeqS P own gf lb encs Kp S Sp w0)
    (hKt : ∀ {A B C : World}, Kp A B → Kp B C → Kp A C) (hKb : ∀ (W : World) (o o' : Obj), W.heap[w.heap.size + 1]? = some o → o.isCells = false → Kp W (W.putObj (w.heap.size + 1) o')) (hb0 : Below w0.heap.size w0 w) (hps : ∀ x, (encs x).size = ps.size)
    (I : List α → World → Prop) (Ix : Code → List α → World → Prop) (hI : Abd (fun r => own r ∨ w.heap.size ≤ r) I) (hIx : ∀ c, Abd (fun r => own r ∨ w.heap.size ≤ r) (Ix c)) (h0 : I [] w)
    (Ax : α → Act → World → Prop) (hAx : ∀ x a' (W : World) (o o' : Obj), Ax x a' W → W.heap[w.heap.size + 1]? = some o → o.isCells = false → Ax x a' (W.putObj (w.heap.size + 1) o'))
    (hassign : ∀ (l : Nat) (pre : List α) (x : α) (W : World) (K : Act → World → Prop), I pre W → (∀ a' W', KeepsFrom w.heap.size W W' → Kp W W' → I pre W' → Ax x a' W' → K a' W') →
      asg.wpIn (Fence.wide.inRound l) 0 P (Exit.then K (fun _ _ _ => False)) { tmps := (ps.zip (encs x)).foldl (fun t (p, v) => t.setIfInBounds p v) a.tmps, defers := [] } W)
    (hbody : ∀ (l : Nat) (pre : List α) (x : α) (a' : Act) (W : World), I pre W → Ax x a' W → Sp (pre ++ [x]) → body.wpIn (Fence.wide.inRound l) 0 P (postS w.heap.size Kp I Ix (pre ++ [x]) W) a' W)
    (hdone : ∀ (D : Nat) (xs : List α) (W : World), w.heap.size ≤ D → S xs → I xs W → W.heap[D]? = some (.deferred (some [])) → Q .normal { a with defers := { target := .collected D, args := #[] } :: a.defers } W)
    (hstop : ∀ (D : Nat) (c : Code) (pre : List α) (W : World), w.heap.size ≤ D → Sp pre → Ix c pre W → W.heap[D]? = some (.deferred (some [])) → c.wpIn Fence.wide n P Q { a with defers := { target := .collected D, args := #[] } :: a.defers } W) :
    (Code.rangeFunc g ps asg body).wpIn Fence.wide n P Q a w := by
  refine wpIn_rangeFunc ?_
  intro fn hfn
  obtain ⟨rc, hrc⟩ : ∃ rc : LoopState → Option Code → Loop, rc = fun st j => { state := st, pending := j, fn, tmps := a.tmps, params := ps, assign := asg, body, defers := w.heap.size } := ⟨_, rfl⟩
  obtain ⟨D, hD⟩ : ∃ D, w.heap.size = D := ⟨_, rfl⟩
  obtain ⟨V, hV⟩ : ∃ V, (w.alloc (.deferred (some []))).alloc (.loop (rc .ready none)) = V := ⟨_, rfl⟩
  have e1 : (w.alloc (.deferred (some []))).heap.size = D + 1 := by rw [World.size_alloc, hD]
  have hVs : V.heap.size = D + 2 := by rw [← hV, World.size_alloc, e1]
  have hVl : V.heap[D + 1]? = some (.loop (rc .ready none)) := by
    have h := World.alloc_heap_new (w.alloc (.deferred (some []))) (.loop (rc .ready none))
    rw [e1, hV] at h; exact h
  have hVd : V.heap[D]? = some (.deferred (some [])) := by
    have h := World.alloc_heap_new w (.deferred (some []))
    rw [hD] at h
    rw [← hV]
    exact (Below.heap_alloc _ _ D (by omega)).trans h
  have hVI : I [] V := by
    rw [← hV]
    exact hI.grown (hI.grown h0 (World.grownBy_alloc _ _ none)) (World.grownBy_alloc _ _ none)
  have hVb : Below w0.heap.size w0 V := by
    rw [← hV]; exact bal (bal hb0 _) _
  -- the two blocks of the loop stand whatever the iterator turns
  have two : ∀ {X Y : World} {row : Option Nat} {k : Nat} {o : Obj}, X.grownBy Y row → (∀ r, row = some r → (own r ∨ V.heap.size ≤ r) ∧ ∃ o, X.heap[r]? = some o ∧ Soft o) → D ≤ k → k < D + 2 → X.heap[k]? = some o → Y.heap[k]? = some o := by
    intro X Y row k o hgr hr hk1 hk2 hk
    refine (hgr.block k (Array.getElem?_eq_some_iff.1 hk).1 (fun e => ?_)).trans hk
    rcases (hr k e.symm).1 with h | h
    · have := hown k h; omega
    · omega
  have less : ∀ {X : World} {row : Option Nat}, (∀ r, row = some r → (own r ∨ V.heap.size ≤ r) ∧ ∃ o, X.heap[r]? = some o ∧ Soft o) → ∀ r, row = some r → (own r ∨ w.heap.size ≤ r) ∧ ∃ o, X.heap[r]? = some o ∧ Soft o := by
    intro X row hr r e
    obtain ⟨h1, h2⟩ := hr r e
    exact ⟨h1.imp id (fun h => by omega), h2⟩
  refine ⟨D + 1, [{ target := .collected D, args := #[] }], V, { target := .fn (.func gf) lb, args := #[.func (.yield (D + 1)) #[] #[]] }, V, gf, #[.func (.yield (D + 1)) #[] #[]] ++ lb, V, ?_, ?_, fun _ _ => trivial, ?_, (fun h => (by cases h)), ?_⟩
  · have h := run_enterLoop_outer (P := P) (w := w) fn a.tmps ps asg body
    rw [hD] at h
    rw [← hV, hrc, hD]
    exact h
  · simp only [resolve, hg]
    simp [go_sem]
  · simp [invoke, go_sem, eg]
  · refine callsIn_wide.2 (callsIn_wide.1 ((hseq (D + 1)
      (fun pre X => I pre X ∧ X.heap[D + 1]? = some (.loop (rc .ready none)) ∧ X.heap[D]? = some (.deferred (some [])))
      (fun pre X => ∃ c, Ix c pre X ∧ X.heap[D + 1]? = some (.loop (rc .done (some c))) ∧ X.heap[D]? = some (.deferred (some [])))
      V hVb
      (fun s X Y row hs hgr hr => ⟨hI s X Y row hs.1 hgr (less hr), two hgr hr (by omega) (by omega) hs.2.1, two hgr hr (by omega) (by omega) hs.2.2⟩)
      (fun s X Y row hs hgr hr => by
        obtain ⟨c, h1, h2, h3⟩ := hs
        exact ⟨c, hIx c s X Y row h1 hgr (less hr), two hgr hr (by omega) (by omega) h2, two hgr hr (by omega) (by omega) h3⟩)
      ?round ⟨hVI, hVl, hVd⟩).mono ?behind))
    case behind =>
      rintro e X ⟨⟨v, rfl⟩, (⟨xs, hS, h1, h2, h3⟩ | ⟨pre, hSp, c, h1, h2, h3⟩)⟩
      · have h4 : (Instr.endLoop (D + 1)).run P X = .ok none (X.putObj (D + 1) (.loop (rc .exhausted none))) := by
          have h := run_endLoop (P := P) h2 (by rw [hrc]; simp)
          rw [hrc] at h ⊢
          exact h
        exact ⟨none, _, h4, hdone D xs _ (by omega) hS (hI.put _ h1 (.inr (by omega)) h2 rfl) ((World.putObj_heap_other (by omega)).trans h3)⟩
      · have h4 : (Instr.endLoop (D + 1)).run P X = .ok (some c) (X.putObj (D + 1) (.loop (rc .exhausted (some c)))) := by
          have h := run_endLoop (P := P) h2 (by rw [hrc]; simp)
          rw [hrc] at h ⊢
          exact h
        exact ⟨some c, _, h4, hstop D c pre _ (by omega) hSp ((hIx c).put _ h1 (.inr (by omega)) h2 rfl) ((World.putObj_heap_other (by omega)).trans h3)⟩
    case round =>
      rintro pre x X ⟨h1, h2, h3⟩ hsp
      have hy := run_yield (P := P) (args := encs x) h2 (by rw [hrc]; exact hps x)
      rw [hrc] at hy
      refine ⟨fn, _, asg, body, hy, roundIn_of_wpIn hfn (hassign _ pre x X _ h1 ?_)⟩
      clear hy h1
      intro a' Y k1 k2 i1 ax
      have g2 := k1.same _ _ (by omega) h2 rfl
      have g3 := k1.same _ _ (by omega) h3 rfl
      clear h2 h3
      obtain ⟨b2, hb2⟩ : ∃ b2, (Obj.loop { rc .ready none with state := .busy }) = b2 := ⟨_, rfl⟩
      obtain ⟨Z, hZ⟩ : ∃ Z, Y.putObj (D + 1) b2 = Z := ⟨_, rfl⟩
      have hbeg := run_beginRound (P := P) g2 (by rw [hrc])
      rw [hb2, hZ] at hbeg
      refine ⟨Z, hbeg, ?_⟩
      have hl := (Array.getElem?_eq_some_iff.1 g2).1
      have z2 : Z.heap[D + 1]? = some b2 := by rw [← hZ]; exact World.putObj_heap_same hl
      have z3 : Z.heap[D]? = some (.deferred (some [])) := by rw [← hZ]; exact (World.putObj_heap_other (by omega)).trans g3
      have zK : Kp Y Z := by
        have := hKb Y _ b2 (by rw [hD]; exact g2) rfl
        rw [hD, hZ] at this; exact this
      have zI : I pre Z := by rw [← hZ]; exact hI.put _ i1 (.inr (by omega)) g2 rfl
      have zA : Ax x a' Z := by
        have := hAx x a' Y _ b2 ax (by rw [hD]; exact g2) rfl
        rw [hD, hZ] at this; exact this
      have hKb' : ∀ (U : World) (o' : Obj), U.heap[D + 1]? = some b2 → Kp U (U.putObj (D + 1) o') := fun U o' hU => by
        have := hKb U _ o' (by rw [hD]; exact hU) (by rw [← hb2]; rfl)
        rw [hD] at this; exact this
      have fin : ∀ (j : Option Code) (U : World), KeepsFrom w.heap.size Z U ∧ Kp Z U →
          (Instr.endRound (D + 1) j).run P U = .ok (.bool j.isNone) (U.putObj (D + 1) (.loop (rc (if j.isNone then .ready else .done) j))) ∧ U.heap[D + 1]? = some b2 ∧
          (U.putObj (D + 1) (.loop (rc (if j.isNone then .ready else .done) j))).heap[D + 1]? = some (.loop (rc (if j.isNone then .ready else .done) j)) ∧
          (U.putObj (D + 1) (.loop (rc (if j.isNone then .ready else .done) j))).heap[D]? = some (.deferred (some [])) ∧ Kp X (U.putObj (D + 1) (.loop (rc (if j.isNone then .ready else .done) j))) := by
        rintro j U ⟨u1, u2⟩
        have u3 := u1.same _ _ (by omega) z2 (by rw [← hb2]; rfl)
        have u4 := u1.same _ _ (by omega) z3 rfl
        have u5 : U.heap[D + 1]? = some (.loop { rc .ready none with state := .busy }) := by rw [hb2]; exact u3
        have h := run_endRound (P := P) j u5
        refine ⟨?_, u3, World.putObj_heap_same (Array.getElem?_eq_some_iff.1 u3).1, (World.putObj_heap_other (by omega)).trans u4, hKt k2 (hKt zK (hKt u2 (hKb' _ _ u3)))⟩
        rw [hrc] at h ⊢
        exact h
      have ho : b2.isCells = false := by rw [← hb2]; rfl
      refine wpIn_mono (hbody _ pre x a' Z zI zA hsp) ?_
      rintro e a3 U hp
      cases e with
      | normal =>
        obtain ⟨f1, f2, f3, f4, f5⟩ := fin none U hp.1
        exact ⟨_, _, f1, .inl ⟨rfl, hI.put _ hp.2 (.inr (by omega)) f2 ho, f3, f4⟩, f5⟩
      | ret =>
        obtain ⟨f1, f2, f3, f4, f5⟩ := fin (some .ret) U hp.1
        exact ⟨_, _, f1, .inr ⟨rfl, .ret, (hIx _).put _ hp.2 (.inr (by omega)) f2 ho, f3, f4⟩, f5⟩
      | exit k =>
        obtain ⟨f1, f2, f3, f4, f5⟩ := fin (some (.exit k)) U hp.1
        exact ⟨_, _, f1, .inr ⟨rfl, .exit k, (hIx _).put _ hp.2 (.inr (by omega)) f2 ho, f3, f4⟩, f5⟩
      | goto k =>
        obtain ⟨f1, f2, f3, f4, f5⟩ := fin (some (.goto k)) U hp.1
        exact ⟨_, _, f1, .inr ⟨rfl, .goto k, (hIx _).put _ hp.2 (.inr (by omega)) f2 ho, f3, f4⟩, f5⟩
      | panic k => exact hp.elim
      | outgrown => exact hp.elim
end Go.Proofs.YtjdjkdgdbdenpaaGreatDoor
/- strings.Cut at one space. -/
namespace Go.Proofs.YtjdjkdgdbdenpaaGreatDoor
open Go Go.RowKit

theorem indexByte_sp : ∀ l : List UInt8, Lib.indexByte l 32 = if hasSp l = true then ((hd l).length : Int) else -1
  | [] => rfl
  | c :: l => by
    have ih := indexByte_sp l
    unfold Lib.indexByte
    by_cases hc : c = 32
    · subst hc
      rw [if_pos (by decide)]
      have : hasSp (32 :: l) = true := rfl
      rw [if_pos this]
      rfl
    · rw [if_neg (by simpa using hc), ih]
      have h1 : hasSp (c :: l) = hasSp l := by unfold hasSp; rw [List.dropWhile_cons_of_pos (by simpa using hc)]
      have h2 : hd (c :: l) = c :: hd l := by unfold hd; rw [List.takeWhile_cons_of_pos (by simpa using hc)]
      rw [h1, h2]
      by_cases h : hasSp l = true
      · rw [if_pos h, if_pos h, if_neg (by simp)]
        simp
      · rw [if_neg h, if_neg h]
        rfl
theorem cut_lists {l : List UInt8} (h : l = hd l ++ 32 :: tl l) : l.take (hd l).length = hd l ∧ l.drop ((hd l).length + 1) = tl l := by
  generalize hd l = a at *
  generalize tl l = b at *
  subst h
  simp
theorem strOf_of {x : ByteArray} {l : List UInt8} (h : x.data.toList = l) : x = strOf l := by subst h; simp [strOf]
set_option maxHeartbeats 1000000 in
theorem litecut_any (s : ByteArray) (hs : s.size ≤ maxLen) (w : World) :
    Calls Tryz.prog 77 #[.string s, .string ⟨#[32]⟩] w fun e w' => e = .returned (.tuple #[.string (strOf (hd s.data.toList)), .string (strOf (tl s.data.toList)), .bool (hasSp s.data.toList)]) ∧ ∃ n, w' = w.drewN n := by
  unfold maxLen at hs
  have C := fun W => Tryz.stringslite_Index_one s 32 W
  have hi := indexByte_sp s.data.toList
  have hlen : s.data.toList.length = s.size := by simp
  rcases hasSp_cases s.data.toList with ⟨h1, h2, _⟩ | ⟨h1, h2, h3, _⟩
  · rw [if_pos h1] at hi
    have hle : (hd s.data.toList).length + 1 ≤ s.size := by
      have := congrArg List.length h2
      simp at this
      omega
    have e1 : s.extract 0 (hd s.data.toList).length = strOf (hd s.data.toList) := strOf_of (by
      rw [Lib.extract_data, List.drop_zero, Nat.sub_zero]
      exact (cut_lists h2).1)
    have e2 : s.extract ((hd s.data.toList).length + 1) s.size = strOf (tl s.data.toList) := strOf_of (by
      rw [Lib.extract_to_end]
      exact (cut_lists h2).2)
    rw [hi] at C
    rw [h1, ← e1, ← e2]
    generalize (hd s.data.toList).length = i at *
    clear hi e1 e2 h2 h1 hlen
    have CC := Lib.hid C
    clear C
    have c1 : (0 : Int) ≤ ↑i := by omega
    have c2 : (↑i : Int) ≤ ↑s.size := by omega
    have c3 : (0 : Int) ≤ ↑i + 1 := by omega
    have c4 : (↑i + 1 : Int) ≤ ↑s.size := by omega
    go_enter Tryz.func77, Tryz.ntmps77
    go_wp2_with (go_at_call 90; refine (CC.out _).mono ?_; rintro e w' ⟨rfl, rfl⟩)
    go_region
    go_wp2
    go_ret3
    exact ⟨rfl, 1, rfl⟩
  · rw [if_neg (by rw [h1]; decide)] at hi
    have e1 : s = strOf (hd s.data.toList) := strOf_of h2.symm
    rw [hi] at C
    rw [h1, h3, ← e1]
    have CC := Lib.hid C
    clear hi e1 h2 h1 h3 hlen C
    go_enter Tryz.func77, Tryz.ntmps77
    go_wp2_with (go_at_call 90; refine (CC.out _).mono ?_; rintro e w' ⟨rfl, rfl⟩)
    go_ret3
    exact ⟨rfl, 0, rfl⟩
theorem Cut_any (s : ByteArray) (hs : s.size ≤ maxLen) (w : World) :
    Calls Tryz.prog 60 #[.string s, .string ⟨#[32]⟩] w fun e w' => e = .returned (.tuple #[.string (strOf (hd s.data.toList)), .string (strOf (tl s.data.toList)), .bool (hasSp s.data.toList)]) ∧ ∃ n, w' = w.drewN n := by
  have C := Lib.hid (litecut_any s hs)
  go_enter Tryz.func60, Tryz.ntmps60
  go_wp2_with (go_at_call 77; refine (C.out _).mono ?_; rintro e w' ⟨rfl, n, rfl⟩)
  go_ret3
  exact ⟨rfl, n, rfl⟩
end Go.Proofs.YtjdjkdgdbdenpaaGreatDoor
/- The program's texts of instructions. -/
namespace Go.Proofs.YtjdjkdgdbdenpaaGreatDoor
open Go Go.RowKit

/-- The tables stand as they were laid. -/
def Good (w : World) : Prop := Vars w ∧ Tab w
theorem Good.below {w w' : World} (h : Good w) (b : Below w.heap.size w w') : Good w' := ⟨h.1.below b, h.2.below b⟩
theorem ret_si {s t : ByteArray} {a b : Int} (h : s = t) (h' : a = b) : Ending.returned (.tuple #[.string s, .int .i64 a]) = .returned (.tuple #[.string t, .int .i64 b]) := by rw [h, h']
theorem tx_no {f a : Int} (h : ex f a = false) : txL f a = [] ∧ txE f a = 2 := by unfold txL txE; rw [h]; exact ⟨rfl, rfl⟩
theorem tx_op {f a : Int} (h : ex f a = true) (h15 : f = 15) : txL f a = nm f a ∧ txE f a = 0 := by unfold txL txE; rw [if_pos h, if_pos h15, if_pos h]; exact ⟨rfl, rfl⟩
theorem tx_fn {f a : Int} (h : ex f a = true) (h15 : f ≠ 15) : txL f a = nm f a ++ 32 :: textL a false ∧ txE f a = 0 := by unfold txL txE; rw [if_pos h, if_neg h15, if_pos h]; exact ⟨rfl, rfl⟩
set_option maxHeartbeats 1000000 in
theorem Text_is (f a : Int) (hf : 0 ≤ f) (ha : isW a) (w : World) (hg : Good w) :
    Calls Tryz.prog 53 #[.agg #[.int .u8 f, .int .i32 a]] w fun e w' => e = .returned (.tuple #[.string (strOf (txL f a)), .int .i64 (txE f a)]) ∧ Below w.heap.size w w' := by
  have C := Lib.hid (fun (W : World) (b : Below w.heap.size w W) => Name_any f a hf ha W (hg.1.below b))
  have D := Lib.hid (fun (W : World) (b : Below w.heap.size w W) => Text_any a false ha W (hg.2.below b))
  clear hg
  obtain ⟨a0, a1⟩ := id ha
  by_cases he : ex f a = true
  · have hle := (ex_facts hf he).2.2.2.2.1
    have htl := (text_len a false a0 a1).2
    rw [he] at C
    by_cases h15 : f = 15
    · subst h15
      have h15' : ((15 : Int) != 15) = false := rfl
      obtain ⟨e1, e2⟩ := tx_op he rfl
      rw [e1, e2]
      clear e1 e2 he hle htl ha a0 a1
      generalize nm 15 a = n at *
      go_enter Tryz.func53, Tryz.ntmps53
      go_wp2_with (first
        | (go_at_call 54; refine (C.out _ (bal (b0 _) _)).mono ?_; rintro e w1 ⟨rfl, b1⟩; obtain ⟨x0, x1, x2⟩ := box2 b1; have B1 := Lib.hid (blw (bal (b0 w) _) b1); clear b1)
        | (go_at_call 71; refine (hasOp_any 15 a _).mono ?_; rintro e w2 ⟨rfl, b2⟩; rw [h15']; have B2 := Lib.hid (blw B1.out b2); clear b2))
      go_ret2
      exact ⟨rfl, B2.out⟩
    · have h15' : (f != 15) = true := by simpa using h15
      obtain ⟨e1, e2⟩ := tx_fn he h15
      rw [e1, e2]
      have hcat := cat_str (nm f a) [32] (by simp; omega)
      have hcat2 := cat_str (nm f a ++ [32]) (textL a false) (by simp; omega)
      have HN := Lib.hid (show (nm f a ++ [32]) ++ textL a false = nm f a ++ 32 :: textL a false by simp)
      clear e1 e2 he hle htl ha a0 a1
      generalize nm f a ++ 32 :: textL a false = tx at *
      generalize hn : nm f a = n at *
      generalize n ++ [32] = ns at *
      generalize textL a false = t at *
      generalize ns ++ t = nt at *
      have hcat' : Op.stringOp .add (strOf n) ⟨#[32]⟩ = pure (.string (strOf ns)) := hcat
      clear hcat hn
      go_enter Tryz.func53, Tryz.ntmps53
      go_wp2_with (first
        | (go_at_call 54; refine (C.out _ (bal (b0 _) _)).mono ?_; rintro e w1 ⟨rfl, b1⟩; obtain ⟨x0, x1, x2⟩ := box2 b1; have B1 := Lib.hid (blw (bal (b0 w) _) b1); clear b1)
        | (go_at_call 71; refine (hasOp_any f a _).mono ?_; rintro e w2 ⟨rfl, b2⟩; rw [h15']; have c2 := bcell b2; have B2 := Lib.hid (blw B1.out b2); clear b2)
        | (go_at_call 72; refine (D.out _ B2.out).mono ?_; rintro e w3 ⟨rfl, b3⟩; have B3 := Lib.hid (blw B2.out b3); clear b3))
      go_ret2
      exact ⟨ret_si (by rw [HN.out]) rfl, B3.out⟩
  · have he' : ex f a = false := by simpa using he
    rw [he'] at C
    obtain ⟨e1, e2⟩ := tx_no he'
    rw [e1, e2]
    clear e1 e2 he he' ha a0 a1
    go_enter Tryz.func53, Tryz.ntmps53
    go_wp2_with (go_at_call 54; refine (C.out _ (bal (b0 _) _)).mono ?_; rintro e w1 ⟨rfl, b1⟩; have B1 := Lib.hid (blw (bal (b0 w) _) b1); clear b1)
    go_ret2
    exact ⟨rfl, B1.out⟩
end Go.Proofs.YtjdjkdgdbdenpaaGreatDoor
