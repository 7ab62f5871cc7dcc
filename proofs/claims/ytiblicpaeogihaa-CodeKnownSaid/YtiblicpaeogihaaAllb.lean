/- All instructions of a sequence of bytes are decoded by the program. -/
import Derived.Test.YtiblicpaeogihaaAll
import Derived.WalkMore
namespace Go.Proofs.Ytiblicpaeogihaa
open Go Go.RowKit Go.Shelf
attribute [local go_sem] Oper.semAt_some

theorem instr_in (F : Fence) (n : Nat) (hF : ∀ f, F.fn f) (hro : F.round = none) (A : Option Addr) (L c : Nat) (w : World) :
    CallsIn F n Try.prog 34 #[.slice A L c] w fun e w' => e = .returned (.func (.func 35) #[] #[.pointer (some ⟨w.heap.size, 0, none⟩)]) ∧ w' = w.alloc (.cells #[.slice A L c] 24) := by
  refine callsIn_of_wp Try.func34 rfl (hF _) ?_ hro
  simp only [Try.ntmps34, List.size_toArray, List.length_cons, List.length_nil, Nat.reduceAdd, Nat.reduceSub, Array.replicate_succ, Array.replicate_zero, List.push_toArray, List.append_toArray, List.nil_append, List.cons_append]
  gi_wp2
  go_ret
  exact ⟨rfl, rfl⟩
theorem iter_stops (F : Fence) (n : Nat) (hF : ∀ f, F.fn f) (hro : F.round = none) (hn : 1 ≤ n) (hG : GetIn F (n - 1)) (Bs : Nat) {w W0 : World} {A : Option Addr} {c L : Nat} {xs : List Nat} (R : RS w A c xs) (hL : xs.length = L)
    (hW : Below w.heap.size w W0) (hB : Boxed W0 Bs 24 (.slice A L c)) :
    SeqStopsK F n Try.prog 35 #[.pointer (some ⟨Bs, 0, none⟩)] encG (Kpt w.heap.size Bs) (fun ys => ys = items xs) (fun pre => pre <+: items xs) (items xs).length W0 := fun l J Jx W hb hJ hJx hY h0 => by
  have hB' : Boxed W Bs 24 (.slice A L c) := (hb.block Bs hB.lt).trans hB
  exact iter_in F n hF hro hn hG l Bs R hL J Jx (fun s X Y hs hg => hJ s X Y none hs hg (fun r e => nomatch e)) hY W (hW.trans (hb.mono hW.size)) hB' h0
theorem get_in (m : Nat) : GetIn Fence.wide m := fun _ _ _ _ _ _ _ _ _ R hm h => callsIn_wide.2 (Get_is R hm h)
theorem wpIn_scope {n : Nat} {P : Program} {Q : Exit → Act → World → Prop} {a : Act} {w : World} {c : Code} (h : c.wpIn Fence.wide n P (Exit.noGoto Q) a w) : (Code.scope c).wpIn Fence.wide n P Q a w :=
  wpIn_wide.2 (wp_scope_straight (wpIn_wide.1 h))
theorem items_len (xs : List Nat) : (items xs).length ≤ xs.length := by
  generalize hn : xs.length = n
  induction n using Nat.strongRecOn generalizing xs with
  | ind n ih =>
    subst hn
    by_cases hx : xs = []
    · subst hx; rw [items_nil]; exact Nat.le_refl _
    · have h0 : 0 < xs.length := List.length_pos_iff.2 hx
      by_cases he : (get xs).e = 0
      · rw [items_ok hx he]
        have h1 := get_drop he hx
        have := ih _ h1 _ rfl
        simp only [List.length_cons]
        omega
      · rw [items_bad hx he]; simp; omega
theorem items_stop (xs : List Nat) : ∀ (ini : List Got) (g : Got), ini ++ [g] <+: items xs → g.e ≠ 0 → items xs = ini ++ [g] := by
  generalize hn : xs.length = n
  induction n using Nat.strongRecOn generalizing xs with
  | ind n ih =>
    subst hn
    intro ini g hp hg
    by_cases hx : xs = []
    · subst hx
      rw [items_nil] at hp
      have := List.prefix_nil.1 hp
      simp at this
    · by_cases he : (get xs).e = 0
      · rw [items_ok hx he] at hp ⊢
        cases ini with
        | nil =>
          rw [List.nil_append, List.cons_prefix_cons] at hp
          rw [hp.1] at hg
          exact absurd he hg
        | cons g0 ini =>
          rw [List.cons_append, List.cons_prefix_cons] at hp
          rw [ih _ (get_drop he hx) _ rfl ini g hp.2 hg, hp.1, List.cons_append]
      · rw [items_bad hx he] at hp ⊢
        cases ini with
        | nil =>
          rw [List.nil_append, List.cons_prefix_cons] at hp
          rw [hp.1, List.nil_append]
        | cons g0 ini =>
          rw [List.cons_append, List.cons_prefix_cons] at hp
          have := List.prefix_nil.1 hp.2
          simp at this
/-- A struct's box. -/
def BoxI (w : World) (k : Nat) (a b : Value) : Prop := w.heap[k]? = some (.cells #[a, b] 23 (0, 0))
theorem boxI_own {X Y : World} {k : Nat} {a b : Value} {row : Option Nat} (h : BoxI X k a b) (hg : X.grownBy Y row) (hr : ∀ r, row = some r → ∃ o : Obj, X.heap[r]? = some o ∧ o.isCells = false) : BoxI Y k a b := by
  refine (hg.block k (heap_lt h) (fun e => ?_)).trans h
  obtain ⟨o, ho, hc⟩ := hr k e.symm
  rw [show X.heap[k]? = _ from h] at ho; cases ho; cases hc
theorem boxI_cells {w : World} {k : Nat} {a b : Value} (h : BoxI w k a b) : w.cell? ⟨k, 0, none⟩ = some a ∧ w.cell? ⟨k, 1, none⟩ = some b :=
  ⟨by rw [cell_of_row _ _ _ _ _ _ h]; rfl, by rw [cell_of_row _ _ _ _ _ _ h]; rfl⟩
theorem kpt_b {n₀ Bs : Nat} {w : World} (hn : n₀ ≤ w.heap.size) (W : World) (l : Nat) (o o' : Obj) (hl : w.heap.size ≤ l) (h : W.heap[l]? = some o) (hc : o.isCells = false) (hw : o.isWalk = false) : Kpt n₀ Bs W (W.putObj l o') :=
  ⟨belowK_b hn W l o o' hl h hc hw, fun v hv => hv.kept (grownBy_putObj' W l o') (fun e => by cases e; rw [show W.heap[Bs]? = _ from hv] at h; cases h; cases hc)⟩
/-- What the loop over the iterator keeps: the list that has been made, no error yet, the bytes. -/
def IA (w : World) (A : Option Addr) (L c : Nat) (pre : List Got) (W : World) : Prop :=
  (((∃ v, Boxed W w.heap.size 43 v ∧ W.ownsRow w.heap.size 23 2 v (toI pre).length (is (toI pre)) ∧ okp pre) ∧ Boxed W (w.heap.size + 1) 25 (.int .i64 0)) ∧ Boxed W (w.heap.size + 1 + 1) 24 (.slice A L c)) ∧ Below w.heap.size w W
/-- What it leaves where it is left. -/
def IX (w : World) (co : Code) (pre : List Got) (W : World) : Prop :=
  (co = .exit 0 ∧ ∃ ini g, pre = ini ++ [g] ∧ g.e ≠ 0 ∧ Boxed W w.heap.size 43 (.slice none 0 0) ∧ Boxed W (w.heap.size + 1) 25 (.int .i64 g.e)) ∧ Below w.heap.size w W
theorem ia_own {w : World} {A : Option Addr} {L c B : Nat} (hB : w.heap.size ≤ B) : OwnFrom B (IA w A L c) :=
  OwnFrom.and (OwnFrom.and (OwnFrom.and (Own.from (holdsRow_own w.heap.size w.heap.size 43 23 2 (fun pre => (toI pre).length) (fun pre => is (toI pre)) (fun pre _ => okp pre)) _) (Own.from (boxed_own _ _ _) _)) (Own.from (boxed_own _ _ _) _)) (ownFrom_below (Nat.le_refl _) hB)
theorem ix_own {w : World} {B : Nat} (hB : w.heap.size ≤ B) (co : Code) : OwnFrom B (IX w co) :=
  OwnFrom.and (Own.from (fun s X Y row hs hg hr => by
    obtain ⟨hc, ini, g, e1, e2, e3, e4⟩ := hs
    exact ⟨hc, ini, g, e1, e2, boxed_own _ _ (fun (_ : Unit) => _) () X Y row e3 hg hr, boxed_own _ _ (fun (_ : Unit) => _) () X Y row e4 hg hr⟩) _) (ownFrom_below (Nat.le_refl _) hB)
theorem cells_two (W : World) (a b : Value) : ∀ j u, [a, b][j]? = some u → (W.alloc (.cells #[a, b] 23)).cell? ((⟨W.heap.size, 0, none⟩ : Addr).add j) = some u := by
  obtain ⟨h0, h1⟩ := cell2_new (w := W) (a := a) (b := b) (t := 23) rfl
  intro j u hj
  rw [add_plain]
  match j with
  | 0 => simp at hj; subst hj; exact h0
  | 1 => simp at hj; subst hj; exact h1
  | j + 2 => simp at hj
theorem ones_two (x y : Int) : ∀ u ∈ ([.int .u8 x, .int .i32 y] : List Value), u.oneCell' = true := by
  intro u hu
  simp at hu
  rcases hu with rfl | rfl <;> rfl
theorem toI_len2 (l : List Got) (x : Got) : (toI (l ++ [x])).length = (toI l).length + 1 := by simp [toI]
theorem is_snoc (l : List Got) (x : Got) : is (toI (l ++ [x])) = is (toI l) ++ [.int .u8 (x.fn : Int), .int .i32 x.arg] := by rw [toI_snoc, is_app]; rfl
theorem all_end {w W : World} {D : Nat} {v : Value} {e : Int} (hv : Boxed W w.heap.size 43 v) (hE : Boxed W (w.heap.size + 1) 25 (.int .i64 e)) (hB : Below w.heap.size w W) (hK : W.heap[D]? = some (.deferred (some []))) (hD : w.heap.size + 3 ≤ D) :
    (((W.setCell ⟨w.heap.size, 0, none⟩ v).setCell ⟨w.heap.size + 1, 0, none⟩ (.int .i64 e)).drew).heap[D]? = some (.deferred (some [])) ∧
    ((((W.setCell ⟨w.heap.size, 0, none⟩ v).setCell ⟨w.heap.size + 1, 0, none⟩ (.int .i64 e)).drew).putObj D (.deferred none)).cell? ⟨w.heap.size, 0, none⟩ = some v ∧
    ((((W.setCell ⟨w.heap.size, 0, none⟩ v).setCell ⟨w.heap.size + 1, 0, none⟩ (.int .i64 e)).drew).putObj D (.deferred none)).cell? ⟨w.heap.size + 1, 0, none⟩ = some (.int .i64 e) ∧
    w.grownBy ((((W.setCell ⟨w.heap.size, 0, none⟩ v).setCell ⟨w.heap.size + 1, 0, none⟩ (.int .i64 e)).drew).putObj D (.deferred none)) none ∧
    (∀ n l, W.ownsRow w.heap.size 23 2 v n l → ((((W.setCell ⟨w.heap.size, 0, none⟩ v).setCell ⟨w.heap.size + 1, 0, none⟩ (.int .i64 e)).drew).putObj D (.deferred none)).ownsRow w.heap.size 23 2 v n l) := by
  have h1 := (hv.set v).other (B' := w.heap.size + 1) (by omega) (.int .i64 e)
  have h2 := (hE.other (B' := w.heap.size) (by omega) v).set (.int .i64 e)
  have hK1 : ((W.setCell ⟨w.heap.size, 0, none⟩ v).setCell ⟨w.heap.size + 1, 0, none⟩ (.int .i64 e)).heap[D]? = some (.deferred (some [])) := ((KeepsOthers.setCell W ⟨w.heap.size, 0, none⟩ v).trans (KeepsOthers.setCell _ ⟨w.heap.size + 1, 0, none⟩ (.int .i64 e))).same D _ hK rfl
  have hB1 := (hB.setCell (p := ⟨w.heap.size, 0, none⟩) (Nat.le_refl _) v).setCell (p := ⟨w.heap.size + 1, 0, none⟩) (by simp) (.int .i64 e)
  refine ⟨hK1, ?_, ?_, ?_, ?_⟩
  · exact Boxed.cell (Boxed.kept (W := ((W.setCell ⟨w.heap.size, 0, none⟩ v).setCell ⟨w.heap.size + 1, 0, none⟩ (.int .i64 e)).drew) h1 (grownBy_putObj' _ D (.deferred none)) (fun e => by have := Option.some.inj e; omega))
  · exact Boxed.cell (Boxed.kept (W := ((W.setCell ⟨w.heap.size, 0, none⟩ v).setCell ⟨w.heap.size + 1, 0, none⟩ (.int .i64 e)).drew) h2 (grownBy_putObj' _ D (.deferred none)) (fun e => by have := Option.some.inj e; omega))
  · exact g_of_below (hB1.drew.trans (belowK_b (w := w) (Nat.le_refl _) _ D _ _ (by omega) hK1 rfl rfl))
  · intro n l hr
    have r1 := hr.kept (grownBy_setCell' W w.heap.size v) (.inr (hv.not_row (by decide) hr).symm)
    have r2 := r1.kept (grownBy_setCell' _ (w.heap.size + 1) (.int .i64 e)) (.inr ((hE.other (B' := w.heap.size) (by omega) v).not_row (by decide) r1).symm)
    exact ownsRow_putObj (World.ownsRow.drew r2) _ hK1 rfl
set_option maxRecDepth 100000 in
set_option maxHeartbeats 4000000 in
theorem All_ok {w : World} {A : Option Addr} {c L : Nat} {xs : List Nat} (R : RS w A c xs) (hL : xs.length = L) (h3 : ¬ (32768 : Int) < (L : Int)) :
    Calls Try.prog 22 #[.slice A L c] w (GivesI w (ae xs) (al xs)) := by
  unfold GivesI
  have h4 : decide ((32768 : Int) < (L : Int)) = false := by simpa using h3
  refine (callsIn_wide (n := 3)).1 ?_
  refine callsIn_of_wp_marks Try.func22 rfl trivial ?_ rfl
  simp only [Try.ntmps22, List.size_toArray, List.length_cons, List.length_nil, Nat.reduceAdd, Nat.reduceSub, Array.replicate_succ, Array.replicate_zero, List.push_toArray, List.append_toArray, List.nil_append, List.cons_append]
  gi_wp2
  refine wpIn_scope ?_
  gi_wp2
  refine wpIn_label ?_
  gi_wp2_with (refine ⟨trivial, ?_⟩; gi_at_call 34; refine (instr_in Fence.wide 2 (fun _ => trivial) rfl _ _ _ _).mono ?_; rintro e w' ⟨rfl, rfl⟩)
  obtain ⟨W0, hW0⟩ : ∃ W0, ((w.alloc (.cells #[.slice none 0 0] 43)).alloc (.cells #[.int .i64 0] 25)).alloc (.cells #[.slice A L c] 24) = W0 := ⟨_, rfl⟩
  have bL := ((Boxed.new w 43 (.slice none 0 0)).alloc (.cells #[.int .i64 0] 25)).alloc (.cells #[.slice A L c] 24)
  have bE := (Boxed.new (w.alloc (.cells #[.slice none 0 0] 43)) 25 (.int .i64 0)).alloc (.cells #[.slice A L c] 24)
  have bB := Boxed.new ((w.alloc (.cells #[.slice none 0 0] 43)).alloc (.cells #[.int .i64 0] 25)) 24 (.slice A L c)
  simp only [World.size_alloc] at bE bB
  have hB0 : Below w.heap.size w (((w.alloc (.cells #[.slice none 0 0] 43)).alloc (.cells #[.int .i64 0] 25)).alloc (.cells #[.slice A L c] 24)) := (((Below.refl _ w).alloc (Nat.le_refl _) _).alloc (by simp) _).alloc (by simp; omega) _
  have hsz : (((w.alloc (.cells #[.slice none 0 0] 43)).alloc (.cells #[.int .i64 0] 25)).alloc (.cells #[.slice A L c] 24)).heap.size = w.heap.size + 3 := by simp
  rw [hW0] at bL bE bB hB0 hsz ⊢
  clear hW0
  refine wpIn_rangeFunc_ownH rfl (show 1 ≤ 3 by omega) (gf := 35) (lb := #[.pointer (some ⟨w.heap.size + 1 + 1, 0, none⟩)]) rfl trivial (enters_of Try.func35 (by kernel_rfl) rfl)
    (iter_stops Fence.wide 2 (fun _ => trivial) rfl (by omega) (get_in _) (w.heap.size + 1 + 1) R hL hB0 bB) kpt_t (kpt_b (by omega)) (Below.refl _ _) (fun _ => rfl)
    (IA w A L c) (IX w) (ia_own (by omega)) (ix_own (by omega)) ⟨⟨⟨⟨_, bL, World.ownsRow_nil _ _ _ _, (fun _ h => nomatch h)⟩, bE⟩, bB⟩, hB0⟩
    (fun x a' W => ∃ Bx, w.heap.size + 1 + 1 < Bx ∧ BoxI W Bx (.int .u8 (x.fn : Int)) (.int .i32 x.arg) ∧ a' = { tmps := #[.slice A L c, undef, .pointer (some ⟨w.heap.size, 0, none⟩), .pointer (some ⟨w.heap.size + 1, 0, none⟩), .pointer (some ⟨Bx, 0, none⟩), .int .i64 x.e, .slice A L c, .int .i64 L, .bool false, .slice A L c, .func (.func 35) #[] #[.pointer (some ⟨w.heap.size + 1 + 1, 0, none⟩)], .agg #[.int .u8 (x.fn : Int), .int .i32 x.arg], .int .i64 x.e, undef, undef, undef, undef, undef, undef, undef, undef, undef, undef], defers := [] })
    (fun x a' _ X Y row hs hg hr => by obtain ⟨Bx, h1, h2, h3⟩ := hs; exact ⟨Bx, h1, boxI_own h2 hg (fun r e => (hr r e).2), h3⟩)
    ?assign ?body ?done ?stop
  case assign =>
    rintro l pre x W K hI hK
    unfold encG
    gi_wp2
    obtain ⟨⟨⟨⟨v0, hv, hrow, hok⟩, hE⟩, hBx⟩, hB⟩ := hI
    exact hK _ _ ((KeepsOthers.alloc _ _).from _) ⟨(Below.refl _ W).alloc hB.size _, fun v hv => hv.alloc _⟩ ⟨⟨⟨⟨v0, hv.alloc _, World.ownsRow.alloc hrow _, hok⟩, hE.alloc _⟩, hBx.alloc _⟩, hB.alloc hB.size _⟩ ⟨W.heap.size, hBx.lt, heap_alloc_new W _, rfl⟩
  case body =>
    rintro l pre x a' W hl ⟨r, hr⟩ ⟨⟨⟨⟨v0, hv, hrow, hok⟩, hE⟩, hBx⟩, hB⟩ ⟨Bx, hlt, hx, rfl⟩ hN
    have hc := hv.cell
    have hf := hv.frozen
    have he := hE.cell
    have hfe := hE.frozen
    obtain ⟨x0, x1⟩ := boxI_cells hx
    have hpl : (toI pre).length ≤ 40000 := by
      have := items_len xs
      rw [toI_len]
      omega
    obtain ⟨q0, hi0, hz0, hz1, hz2⟩ := info_parts ins_info
    by_cases hxe : x.e = 0
    · have hxe' : (x.e == 0) = true := by simpa using hxe
      gi_wp2_with (gi_at_builtin; refine wpListIn_append_own _ rfl _ _ 43 rfl w.heap.size 23 q0 (.agg #[.int .u8 0, .int .i32 0]) 2 8 Try.underlying43 hi0 hz0 hz1 hz2 rfl (by decide) _ _ _ rfl (World.ownsRow.alloc hrow _) ⟨W.heap.size, 0, none⟩ 1 1 [.int .u8 (x.fn : Int), .int .i32 x.arg] rfl rfl (cells_two W _ _) (ones_two _ _) (by unfold maxLen; omega) (by omega) (by have := hB.size; simp; omega) ?_; intro v' w1 hown' hgrow _; obtain ⟨g', cap', rfl⟩ := ownsRow_succ hown'; obtain ⟨hv1, hv2, hr2, hk2, hb2⟩ := hv.appended (by decide) hrow hB.size (Nat.le_refl _) hown' hgrow; have hc1 := hv1.cell; have hf1 := hv1.frozen)
      exact ⟨hk2.from _, ⟨hb2, fun v hv' => ((hv'.alloc _).kept hgrow (hv'.not_row (by decide) hrow)).other (by omega) _⟩,
        ⟨⟨⟨⟨_, hv2, by rw [is_snoc, toI_len2]; exact hr2, hok.app (okp.one hxe)⟩, ((hE.alloc _).kept hgrow (hE.not_row (by decide) hrow)).other (by omega) _⟩, ((hBx.alloc _).kept hgrow (hBx.not_row (by decide) hrow)).other (by omega) _⟩, hB.trans hb2⟩⟩
    · have hxe' : (x.e == 0) = false := by simpa using hxe
      gi_wp2
      exact ⟨((KeepsOthers.setCell _ _ _).trans (KeepsOthers.setCell _ _ _)).from _, ⟨⟨rfl, pre, x, rfl, hxe, (hv.set _).other (by omega) _, (hE.other (by omega) _).set _⟩, (hB.setCell (p := ⟨w.heap.size, 0, none⟩) (Nat.le_refl _) _).setCell (p := ⟨w.heap.size + 1, 0, none⟩) (by simp) _⟩⟩
  case done =>
    rintro D ys W hD rfl ⟨⟨⟨⟨v0, hv, hrow, hok⟩, hE⟩, _⟩, hB⟩ hK
    have hc := hv.cell
    have hf := hv.frozen
    have he := hE.cell
    have hfe := hE.frozen
    obtain ⟨A0, c0, rfl⟩ : ∃ A0 c0, v0 = .slice A0 (toI (items xs)).length c0 := by
      rcases hrow.2 with ⟨h, h0⟩ | ⟨g, cap, _, h, _⟩
      · exact ⟨none, 0, by rw [h, h0]⟩
      · exact ⟨_, cap, h⟩
    generalize hn0 : (toI (items xs)).length = n0 at *
    obtain ⟨hK', k0, k1, kg, ko⟩ := all_end hv hE hB hK (by omega)
    have E := Lib.hid (show ae xs = 0 from (show ae xs = lastE (items xs) from if_neg (by rw [hL]; omega)).trans (lastE_ok hok))
    have E2 := Lib.hid (al_ok E.out)
    have HO := Lib.hid (ko _ _ hrow)
    have HN := Lib.hid hn0
    clear hrow ko hn0
    gi_wp2
    gi_region
    all_goals gi_wp2
    rw [Exit.noGoto_ret]
    refine ⟨by simp, .inl ⟨_, _, rfl, run_takeDeferred hK', ?_⟩⟩
    refine ⟨.tuple #[.slice A0 n0 c0, .int .i64 0], ?_, ?_⟩
    · simp [results, Try.f22, go_sem, k0, k1]
    · rw [E.out, E2.out, HN.out]
      exact ⟨A0, c0, rfl, HO.out, kg⟩
  case stop =>
    rintro D co pre W hD hpre ⟨⟨rfl, ini, g, rfl, hg, hv, hE⟩, hB⟩ hK
    have hc := hv.cell
    have hf := hv.frozen
    have he := hE.cell
    have hfe := hE.frozen
    obtain ⟨hK', k0, k1, kg, _⟩ := all_end hv hE hB hK (by omega)
    have E := Lib.hid (show ae xs = g.e from (show ae xs = lastE (items xs) from if_neg (by rw [hL]; omega)).trans (by rw [items_stop xs ini g hpre hg, lastE_snoc]))
    have E2 := Lib.hid (al_no (xs := xs) (by rw [E.out]; exact hg))
    gi_wp2
    gi_region
    all_goals gi_wp2
    rw [Exit.noGoto_ret]
    refine ⟨by simp, .inl ⟨_, _, rfl, run_takeDeferred hK', ?_⟩⟩
    refine ⟨.tuple #[.slice none 0 0, .int .i64 g.e], ?_, ?_⟩
    · simp [results, Try.f22, go_sem, k0, k1]
    · rw [E.out, E2.out]
      exact ⟨none, 0, rfl, ownI_nil _ _, kg⟩
set_option maxRecDepth 100000 in
theorem All_long {w : World} {A : Option Addr} {c L : Nat} {xs : List Nat} (hL : xs.length = L) (h3 : (32768 : Int) < (L : Int)) : Calls Try.prog 22 #[.slice A L c] w (GivesI w (ae xs) (al xs)) := by
  unfold GivesI
  have E := Lib.hid (ae_long (xs := xs) (by rw [hL]; omega))
  have E2 := Lib.hid (al_no (xs := xs) (by rw [E.out]; decide))
  clear hL
  refine (callsIn_wide (n := 3)).1 ?_
  refine callsIn_of_wp_marks Try.func22 rfl trivial ?_ rfl
  simp only [Try.ntmps22, List.size_toArray, List.length_cons, List.length_nil, Nat.reduceAdd, Nat.reduceSub, Array.replicate_succ, Array.replicate_zero, List.push_toArray, List.append_toArray, List.nil_append, List.cons_append]
  gi_wp2
  refine wpIn_scope ?_
  gi_wp2
  rw [Exit.noGoto_ret]
  refine ⟨.tuple #[.slice none 0 0, .int .i64 3], ?_, ?_⟩
  · simp [results, Try.f22, go_sem]
  · rw [E.out, E2.out]
    exact ⟨none, 0, rfl, ownI_nil _ _, g_trans (World.grownBy_alloc w _ none) (World.grownBy_alloc _ _ none)⟩
theorem All_any {w : World} {A : Option Addr} {c n : Nat} {xs : List Nat} (R : RS w A c xs) (hn : xs.length = n) : Calls Try.prog 22 #[.slice A n c] w (GivesI w (ae xs) (al xs)) := by
  by_cases h3 : (32768 : Int) < (n : Int)
  · exact All_long hn h3
  · exact All_ok R hn h3
end Go.Proofs.Ytiblicpaeogihaa
