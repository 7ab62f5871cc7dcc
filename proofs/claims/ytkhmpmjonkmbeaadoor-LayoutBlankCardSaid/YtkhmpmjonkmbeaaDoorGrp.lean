/- The program groups lines into rows. -/
import Derived.Test.YtkhmpmjonkmbeaaDoorGrq
import Derived.Test.YtkhmpmjonkmbeaaDoorGrs
import Derived.WalkMore
set_option linter.unusedVariables false
set_option linter.unusedSimpArgs false
namespace Go.Proofs.YtkhmpmjonkmbeaaDoor
open Go Go.RowKit Go.Shelf L7
attribute [local go_sem] Oper.semAt_some

def IG (w : World) (pre : List L7.Item) (W : World) : Prop := ∃ A c l A' c' op, Pg pre op l ∧ GS w W A c l A' c' op
def IX (w : World) (co : Code) (pre : List L7.Item) (W : World) : Prop :=
  co = .ret ∧ ∃ ini x op l n e, pre = ini ++ [x] ∧ runG ([], []) ini = .ok (op, l) ∧ L7.stepG (op, l) (itL x) = .error (n, e) ∧ Boxed W w.heap.size 22 (.slice none 0 0) ∧ Boxed W (w.heap.size + 1) 3 (.int .i64 n) ∧ Boxed W (w.heap.size + 1 + 1) 23 (.int .i64 e) ∧ Below w.heap.size w W
theorem soft_row {X : World} {base e : Nat} {size k : Nat} {v : Value} {xs : List Value} {r : Nat} (h : X.ownsRow base e size v k xs) (hs : e ≠ 9) (hi : e ≠ 3) (hr : ∃ o, X.heap[r]? = some o ∧ Soft o) : v.ownBlock ≠ some r := by
  rcases h.2 with ⟨rfl, _⟩ | ⟨g, cap, cur, rfl, _, hgb, _⟩
  · simp [Value.ownBlock]
  · intro e'
    obtain rfl : g = r := by simpa [Value.ownBlock] using e'
    obtain ⟨o, ho, hso⟩ := hr
    rw [hgb] at ho
    cases ho
    rcases hso with hso | ⟨u, hso⟩ | ⟨u, hso⟩
    · cases hso
    · injection hso with _ h2 _; exact hs h2
    · injection hso with _ h2 _; exact hi h2
theorem soft_keep {X Y : World} {base e : Nat} {size k : Nat} {v : Value} {xs : List Value} {row : Option Nat} (h : X.ownsRow base e size v k xs) (hs : e ≠ 9) (hi : e ≠ 3) (hg : X.grownBy Y row) (hr : ∀ r, row = some r → ∃ o, X.heap[r]? = some o ∧ Soft o) : Y.ownsRow base e size v k xs := by
  refine h.kept hg ?_
  cases row with
  | none => cases v.ownBlock <;> simp
  | some r => exact .inr (soft_row h hs hi (hr r rfl))
theorem ig_abd {w : World} (hm : MaxIs w) {ok : Nat → Prop} (h : ∀ r, ok r → w.heap.size + 4 ≤ r) : Abd ok (IG w) := by
  intro s X Y row ⟨A, c, l, A', c', op, hp, g⟩ hg hr
  have hlow := g.low hm
  have far : ∀ B, B < w.heap.size + 4 → some B ≠ row := fun B hB e => by have := h B (hr B e.symm).1; omega
  refine ⟨A, c, l, A', c', op, hp, g.bL.kept hg (far _ (by omega)), g.bI.kept hg (far _ (by omega)), g.bE.kept hg (far _ (by omega)), g.bO.kept hg (far _ (by omega)), soft_keep g.oL (by decide) (by decide) hg (fun r e => (hr r e).2), soft_keep g.oO (by decide) (by decide) hg (fun r e => (hr r e).2), ?_, Below.grown g.bel hg g.bel.size (fun k e => by have := h k (hr k e).1; omega)⟩
  obtain ⟨m, hx⟩ := g.mx
  exact ⟨m, hg.cell hx (fun e => by have := h _ (hr _ e.symm).1; simp at this <;> omega)⟩
theorem ix_abd {w : World} {ok : Nat → Prop} (h : ∀ r, ok r → w.heap.size + 4 ≤ r) (co : Code) : Abd ok (IX w co) := by
  intro s X Y row ⟨hc, ini, x, op, l, n, e, e1, e2, e3, e4, e5, e6, e7⟩ hg hr
  have far : ∀ B, B < w.heap.size + 4 → some B ≠ row := fun B hB e => by have := h B (hr B e.symm).1; omega
  exact ⟨hc, ini, x, op, l, n, e, e1, e2, e3, e4.kept hg (far _ (by omega)), e5.kept hg (far _ (by omega)), e6.kept hg (far _ (by omega)), Below.grown e7 hg e7.size (fun k e => by have := h k (hr k e).1; omega)⟩
theorem stop_fin {w V0 V : World} {A A' : Option Addr} {b c5 c c' : Nat} {l op l1 op1 : List Rw} {ini : List L7.Item} {x : L7.Item} {n e : Int} (g : GS w V A c l A' c' op) (hm : MaxIs w) (k : KB c5 V0 V) (h5 : w.heap.size + 3 ≤ c5) (h1 : runG ([], []) ini = .ok (op1, l1)) {y : Rw} (hxy : itL x = y) (h2 : L7.stepG (op1, l1) y = .error (n, e)) :
    (KeepsFrom b V0 (((V.setCell ⟨w.heap.size, 0, none⟩ (.slice none 0 0)).setCell ⟨w.heap.size + 1, 0, none⟩ (.int .i64 n)).setCell ⟨w.heap.size + 1 + 1, 0, none⟩ (.int .i64 e)).drew ∧ KpL c5 V0 (((V.setCell ⟨w.heap.size, 0, none⟩ (.slice none 0 0)).setCell ⟨w.heap.size + 1, 0, none⟩ (.int .i64 n)).setCell ⟨w.heap.size + 1 + 1, 0, none⟩ (.int .i64 e)).drew) ∧
    IX w .ret (ini ++ [x]) (((V.setCell ⟨w.heap.size, 0, none⟩ (.slice none 0 0)).setCell ⟨w.heap.size + 1, 0, none⟩ (.int .i64 n)).setCell ⟨w.heap.size + 1 + 1, 0, none⟩ (.int .i64 e)).drew := by
  obtain ⟨⟨g1, g2, g3⟩, g4, g5⟩ := g.stop hm n e
  refine ⟨KB.post ((((k.trans (kb_setc (.slice none 0 0) (by omega))).trans (kb_setc (.int .i64 n) (by omega))).trans (kb_setc (.int .i64 e) (by omega))).trans (kb_drew _)) g4, rfl, ini, x, op1, l1, n, e, rfl, h1, (by rw [hxy]; exact h2), g1, g2, g3, bdrew g5 1⟩
theorem own_ne {A : Option Addr} {B n c : Nat} (h : ∀ ad, A = some ad → ad.block ≠ B) : some B ≠ (Value.slice A n c).ownBlock := by
  cases A with
  | none => simp [Value.ownBlock]
  | some ad =>
    have := h ad rfl
    intro e
    apply this
    simp only [Value.ownBlock] at e
    exact (Option.some.inj e).symm
/-- The world behind the return. -/
theorem grp_end {w U : World} {D : Nat} {v q e : Value} (hv : Boxed U w.heap.size 22 v) (hq : Boxed U (w.heap.size + 1) 3 q) (he : Boxed U (w.heap.size + 1 + 1) 23 e) (hB : Below w.heap.size w U) (hK : U.heap[D]? = some (.deferred (some []))) (hD : w.heap.size + 4 ≤ D) :
    (U.putObj D (.deferred none)).cell? ⟨w.heap.size, 0, none⟩ = some v ∧ (U.putObj D (.deferred none)).cell? ⟨w.heap.size + 1, 0, none⟩ = some q ∧ (U.putObj D (.deferred none)).cell? ⟨w.heap.size + 1 + 1, 0, none⟩ = some e ∧ Below w.heap.size w (U.putObj D (.deferred none)) ∧
    (∀ A n c ls, OwnR U 38 w.heap.size A n c ls → OwnR (U.putObj D (.deferred none)) 38 w.heap.size A n c ls) :=
  ⟨(boxed_put hK rfl hv).cell, (boxed_put hK rfl hq).cell, (boxed_put hK rfl he).cell, hB.trans (belowK_b (w := w) (Nat.le_refl _) _ D _ _ (by omega) hK rfl rfl), fun A n c ls h => ownsRow_putObj h _ hK rfl⟩
set_option maxRecDepth 100000 in
set_option maxHeartbeats 8000000 in
theorem grouped_any (s : Bs) (hs : s.length ≤ 65536) (hbl : badLine (lnsOf s) = none) (w : World) (hm : MaxIs w) : Calls Tryd.prog 30 #[.string (strOf s)] w (GivesR w s) := by
  have HM := Lib.hid hm
  clear hm
  refine (callsIn_wide (n := 2)).1 ?_
  refine callsIn_of_wp_marks Tryd.func30 rfl trivial ?_ rfl
  simp only [Tryd.ntmps30, List.size_toArray, List.length_cons, List.length_nil, Nat.reduceAdd, Nat.reduceSub, Array.replicate_succ, Array.replicate_zero, List.push_toArray, List.append_toArray, List.nil_append, List.cons_append]
  gi_wp2
  refine wpIn_scope ?_
  gi_wp2
  refine wpIn_label ?_
  gi_wp2_with (refine ⟨trivial, ?_⟩; gi_at_call 53; refine (linesOf_in _ _ _).mono ?_; rintro e w' ⟨rfl, rfl⟩)
  obtain ⟨W0, hW0⟩ : ∃ W0, ((((w.alloc (.cells #[.slice none 0 0] 22)).alloc (.cells #[.int .i64 0] 3)).alloc (.cells #[.int .i64 0] 23)).alloc (.cells #[.slice none 0 0] 78)).alloc (.cells #[.string (strOf s)] 9) = W0 := ⟨_, rfl⟩
  have bL := ((((Boxed.new w 22 (.slice none 0 0)).alloc (.cells #[.int .i64 0] 3)).alloc (.cells #[.int .i64 0] 23)).alloc (.cells #[.slice none 0 0] 78)).alloc (.cells #[.string (strOf s)] 9)
  have bI := (((Boxed.new (w.alloc (.cells #[.slice none 0 0] 22)) 3 (.int .i64 0)).alloc (.cells #[.int .i64 0] 23)).alloc (.cells #[.slice none 0 0] 78)).alloc (.cells #[.string (strOf s)] 9)
  have bE := ((Boxed.new ((w.alloc (.cells #[.slice none 0 0] 22)).alloc (.cells #[.int .i64 0] 3)) 23 (.int .i64 0)).alloc (.cells #[.slice none 0 0] 78)).alloc (.cells #[.string (strOf s)] 9)
  have bO := (Boxed.new (((w.alloc (.cells #[.slice none 0 0] 22)).alloc (.cells #[.int .i64 0] 3)).alloc (.cells #[.int .i64 0] 23)) 78 (.slice none 0 0)).alloc (.cells #[.string (strOf s)] 9)
  have bS := Boxed.new ((((w.alloc (.cells #[.slice none 0 0] 22)).alloc (.cells #[.int .i64 0] 3)).alloc (.cells #[.int .i64 0] 23)).alloc (.cells #[.slice none 0 0] 78)) 9 (.string (strOf s))
  have hB0 : Below w.heap.size w (((((w.alloc (.cells #[.slice none 0 0] 22)).alloc (.cells #[.int .i64 0] 3)).alloc (.cells #[.int .i64 0] 23)).alloc (.cells #[.slice none 0 0] 78)).alloc (.cells #[.string (strOf s)] 9)) := bal (bal (bal (bal (bal (b0 w) _) _) _) _) _
  have hsz : (((((w.alloc (.cells #[.slice none 0 0] 22)).alloc (.cells #[.int .i64 0] 3)).alloc (.cells #[.int .i64 0] 23)).alloc (.cells #[.slice none 0 0] 78)).alloc (.cells #[.string (strOf s)] 9)).heap.size = w.heap.size + 5 := by simp
  simp only [World.size_alloc] at bI bE bO bS
  rw [hW0] at bL bI bE bO bS hB0 hsz ⊢
  clear hW0
  have hM0 := HM.out.below hB0
  have hlow : 0 < w.heap.size := by obtain ⟨m, hx⟩ := HM.out; exact g_lt hx
  refine range_soft (own := fun _ => False) (fun _ h => h.elim) (gf := 65) (lb := #[.pointer (some ⟨w.heap.size + 1 + 1 + 1 + 1, 0, none⟩)]) rfl (enters_of Tryd.func65 (by kernel_rfl) rfl)
    (line_items (by omega) bS hM0) kpL_t ?kpb (Below.refl _ _) (fun _ => rfl)
    (IG w) (IX w) (ig_abd HM.out (fun r h => by rcases h with h | h; exact h.elim; omega)) (fun c => ix_abd (fun r h => by rcases h with h | h; exact h.elim; omega) c)
    ⟨none, 0, [], none, 0, [], pg_nil, bL, bI, bE, bO, ownR_nil _ _ _, ownR_nil _ _ _, hM0, hB0⟩
    (fun x a' V => ∃ B, a' = { tmps := #[.string (strOf s), undef, .pointer (some ⟨w.heap.size, 0, none⟩), .pointer (some ⟨w.heap.size + 1, 0, none⟩), .pointer (some ⟨w.heap.size + 1 + 1, 0, none⟩), .pointer (some ⟨w.heap.size + 1 + 1 + 1, 0, none⟩), .pointer (some ⟨B, 0, none⟩), undef, .string (strOf s), .func (.func 65) #[] #[.pointer (some ⟨w.heap.size + 1 + 1 + 1 + 1, 0, none⟩)], rwV (itL x), undef, undef, undef, undef, undef, undef, undef, undef, undef, undef, undef, undef, undef, undef, undef, undef, undef, undef, undef, undef, undef, undef, undef, undef, undef, undef, undef, undef, undef, undef, undef, undef, undef, undef, undef, undef, undef, undef, undef, undef, undef, undef, undef], defers := [] } ∧ BoxS V B 83 #[.int .i64 (itL x).no, .int .i64 (itL x).dp, .string (strOf (itL x).tx)] ∧ ∀ A' n c', V.cell? ⟨w.heap.size + 1 + 1 + 1, 0, none⟩ = some (.slice A' n c') → ∀ ad, A' = some ad → ad.block ≠ B)
    ?ax ?assign ?body ?done ?stop
  case kpb =>
    intro V o o' hl ho
    refine ⟨⟨by simp, fun k o1 hk hh _ => (World.putObj_heap_other (by omega)).trans hh⟩, fun B t v _ _ hv => boxed_put hl ho hv, fun hx => ?_⟩
    obtain ⟨m, hx⟩ := hx
    exact ⟨m, (grownBy_putObj' V _ o').cell hx (fun e => by simp at e <;> omega)⟩
  case ax =>
    rintro x a' V o o' ⟨B, h1, h2, h3⟩ hl ho
    refine ⟨B, h1, ?_, fun A' n c' hc => h3 A' n c' ?_⟩
    case refine_2 =>
      rw [← hc]
      have e1 : (V.putObj (W0.heap.size + 1) o').heap[w.heap.size + 1 + 1 + 1]? = V.heap[w.heap.size + 1 + 1 + 1]? := World.putObj_heap_other (by omega)
      simp only [World.cell?]
      rw [e1]
    refine h2.kept (grownBy_putObj' V _ o') (fun e => ?_)
    have e2 : B = W0.heap.size + 1 := by cases e; rfl
    rw [← e2, show V.heap[B]? = _ from h2] at hl
    cases hl
    cases ho
  case assign =>
    rintro l2 pre x V K hI hK
    gi_wp2
    obtain ⟨A, c, l, A', c', op, hp, g⟩ := hI
    have b1 : Below V.heap.size V (V.alloc (.cells #[.int .i64 (itL x).no, .int .i64 (itL x).dp, .string (strOf (itL x).tx)] 83)) := bal (b0 V) _
    exact hK _ _ ((kb_below (c := 0) b1).1.from _) ((kb_below b1).post (b := W0.heap.size) (g.mx.below b1)).2 ⟨A, c, l, A', c', op, hp, g.grown b1⟩ ⟨V.heap.size, rfl, boxS_new V _ _, fun A2 n2 c2 hc ad ha => by
      have h1 := (g.grown b1).bO.cell
      rw [h1] at hc
      injection hc with hc
      injection hc with hc _ _
      have := (owned_ge g.oO ad (by rw [hc, ha])).2.1
      omega⟩
  case body =>
    rintro l2 pre x a' V ⟨A, c, l, A', c', op, hp, g⟩ ⟨B, rfl, hB, hap⟩ hsp
    obtain ⟨hbd, hlen⟩ := src_item hs hsp
    have hmix : Tryd.prog.follows .mixedOrders = true := by kernel_rfl
    have hopl : op.length ≤ 65536 := by have := hp.2.2.2.2; omega
    have hl48 := hp.2.2.2.1
    have hx0 : 0 ≤ (itL x).dp ∧ (itL x).dp ≤ 100000 := by
      have := (bdl_one hbd) (itL x) (by simp)
      omega
    have CI := Lib.hid (CallsIn.inRound (n := 0) l2 (callsIn_wide.2 (isIndented_any (itL x) hx0.1 hx0.2 (g.oO.rr hp.2.1.ok) (g.oL.rr (fun y hy => by have := (hp.2.2.1 y hy).2.2; unfold OKx maxLen; omega)) rfl rfl (fun y hy => by have := hp.2.2.1 y hy; omega))))
    have G := Lib.hid (And.intro hp g)
    have HB := Lib.hid hB
    have HA := Lib.hid (hap _ _ _ g.bO.cell)
    have HZ := Lib.hid (And.intro hsz hlow)
    have k1 := g.bL.cell
    have k2 := g.bO.cell
    obtain ⟨⟨q0, q1, q2⟩, q3⟩ := box3 hB
    have HO := Lib.hid (And.intro hbd (And.intro hopl hl48))
    have HG := Lib.hid (fun (h1 : indOk (itL x) op l = true) (h2 : conts x.2.2 = true) => pg_go hp hbd h1 h2)
    have HE := Lib.hid (fun (h1 : indOk (itL x) op l = true) (h2 : conts x.2.2 = false) (h3 : within (joinR (op ++ [itL x])) = true) (h4 : ¬ l.length = 2048) => pg_end hp hbd h1 h2 h3 h4)
    have HR := Lib.hid (join_dp hp.2.1 hbd)
    obtain ⟨y, hy⟩ : ∃ y, itL x = y := ⟨_, rfl⟩
    have HY := Lib.hid hy
    have hxt : x.2.2 = y.tx := by rw [← hy]; rfl
    rw [hy] at CI q0 q1 q2 HB HR HG HE
    rw [hxt] at HG HE
    have HBd := Lib.hid (show BdL (op ++ [y]) by rw [← hy]; exact hp.2.1.app (bdl_one hbd))
    clear hxt hap hbd hlen hx0 hsp hp g hB hsz hlow bL bI bE bO bS hB0 hM0 hs hbl
    clear hy
    cases hi : indOk y op l with
    | false =>
      have HS := Lib.hid (L7.step_bad (s := (op, l)) hi)
      rw [hi] at CI
      clear hi HG HE HR HBd HA
      obtain ⟨no, dp, tx⟩ := y
      dsimp only at *
      gi_wp2_with (refine ⟨trivial, rfl, ?_⟩; gi_at_call 54; refine (CI.out).mono ?_; rintro e V1 ⟨rfl, b1⟩; have G1 := Lib.hid (And.intro b1 (G.out.2.grown b1)); have c1 := G1.out.2.bL.cell; have f1 := G1.out.2.bL.frozen; have c2 := G1.out.2.bI.cell; have f2 := G1.out.2.bI.frozen; have c3 := G1.out.2.bE.cell; have f3 := G1.out.2.bE.frozen; have x1 := (box3 (HB.out.below b1)).1.1; clear b1)
      have x2 := cell_far (B := w.heap.size) (j := 0) (.slice none 0 0) x1 (by intro e; have h1 := G1.out.2.bL; have h2 := HB.out.below G1.out.1; simp only at e; subst e; unfold Boxed at h1; unfold BoxS at h2; rw [h1] at h2; cases h2)
      have HF := Lib.hid (stop_fin (b := W0.heap.size) (c5 := W0.heap.size) G1.out.2 HM.out (kb_below G1.out.1) (by have := HZ.out.1; omega) G.out.1.1 HY.out HS.out)
      refine wpIn_region_any hmix ?_
      change wpAnyIn _ _ _ _ _ _ _ _ _ (World.drew _)
      refine any_round l2 (noDefer_all (by kernel_rfl)) _ _ _ _ ?_
      refine wpAnyIn_take (i := 0) (v := .pointer (some ⟨B, 0, none⟩)) rfl rfl (by kernel_rfl) (by kernel_rfl) (by kernel_rfl) (fun _ _ _ h => h) ⟨Or.inl ⟨by rfl, (by intro w; go_simp)⟩, fun _ => rfl⟩ ?_
      refine wpAnyIn_ready (rs := [1, 2]) (by kernel_rfl) (by simp) ?_
      refine AllReadyIn.cons rfl (fun K hK => ?_) (AllReadyIn.cons rfl (fun K hK => ?_) AllReadyIn.nil)
      · go_simp
        refine hK _ _ ?_
        clear hK K
        refine wpAnyIn_ready (rs := [2]) (by kernel_rfl) (by simp) ?_
        refine AllReadyIn.cons rfl (fun K hK => ?_) AllReadyIn.nil
        go_simp
        refine hK _ _ ?_
        clear hK K
        refine wpAnyIn_ready (rs := [3]) (by kernel_rfl) (by simp) ?_
        refine AllReadyIn.cons rfl (fun K hK => ?_) AllReadyIn.nil
        go_simp
        refine hK _ _ ?_
        clear hK K
        refine wpAnyIn_ready (rs := [4]) (by kernel_rfl) (by simp) ?_
        refine AllReadyIn.cons rfl (fun K hK => ?_) AllReadyIn.nil
        go_simp
        refine hK _ _ ?_
        clear hK K
        refine wpAnyIn_done (by kernel_rfl) ?_ _
        gi_wp2
        exact HF.out
      · go_simp
        refine hK _ _ ?_
        clear hK K
        refine wpAnyIn_ready (rs := [1]) (by kernel_rfl) (by simp) ?_
        refine AllReadyIn.cons rfl (fun K hK => ?_) AllReadyIn.nil
        go_simp
        refine hK _ _ ?_
        clear hK K
        refine wpAnyIn_ready (rs := [3]) (by kernel_rfl) (by simp) ?_
        refine AllReadyIn.cons rfl (fun K hK => ?_) AllReadyIn.nil
        go_simp
        refine hK _ _ ?_
        clear hK K
        refine wpAnyIn_ready (rs := [4]) (by kernel_rfl) (by simp) ?_
        refine AllReadyIn.cons rfl (fun K hK => ?_) AllReadyIn.nil
        go_simp
        refine hK _ _ ?_
        clear hK K
        refine wpAnyIn_done (by kernel_rfl) ?_ _
        gi_wp2
        exact HF.out
    | true =>
      rw [hi] at CI
      have HI := Lib.hid hi
      clear hi
      obtain ⟨i0, hi0, hz0, hz1, hz2⟩ := info_parts line_info
      obtain ⟨no, dp, tx⟩ := y
      dsimp only at *
      have HT := Lib.hid (fun W => CallsIn.inRound (n := 0) l2 (callsIn_wide.2 (doesContinue_any tx (by have := (HBd.out ⟨no, dp, tx⟩ (by simp)).2.2.2.2; unfold maxLen; dsimp only at this; omega) W)))
      have hne : B ≠ w.heap.size + 1 + 1 + 1 := by
        intro e
        have h1 := G.out.2.bO
        have h2 := HB.out
        subst e
        unfold Boxed at h1
        unfold BoxS at h2
        rw [h1] at h2
        cases h2
      have HN := Lib.hid hne
      clear hne
      cases hc : conts tx with
      | true =>
        rw [hc] at HT
        have HGo := Lib.hid (HG.out HI.out hc)
        clear hc HE HR HG
        gi_wp2_with (first
          | (refine ⟨trivial, rfl, ?_⟩; gi_at_call 54; refine (CI.out).mono ?_; rintro e V1 ⟨rfl, b1⟩; have G1 := Lib.hid (And.intro b1 (G.out.2.grown b1)); have Gt := Lib.hid (G1.out.2.grown (bal (b0 V1) (.cells #[.int .i64 no, .int .i64 dp, .string (strOf tx)] 83))); have c1 := G1.out.2.bO.cell; obtain ⟨⟨x0, x1, x2⟩, x3⟩ := box3 (HB.out.below b1); clear b1)
          | (gi_at_builtin; refine wpListIn_append_own _ rfl _ _ 78 rfl w.heap.size 83 i0 (.agg #[.int .i64 0, .int .i64 0, .string ⟨#[]⟩]) 3 32 Tryd.underlying78 hi0 hz0 hz1 hz2 rfl (by decide) _ _ _ rfl Gt.out.oO ⟨V1.heap.size, 0, none⟩ 1 1 (rwCs [⟨no, dp, tx⟩]) rfl (by rw [rwCs_len]; rfl) ((rr_one (HBd.out.ok ⟨no, dp, tx⟩ (by simp)) (boxS_new V1 83 #[.int .i64 no, .int .i64 dp, .string (strOf tx)])).cells rfl) (rwCs_one _) (by unfold maxLen; omega) (by omega) Gt.out.bel.size ?_; intro v' w1 hown' hgrow _; obtain ⟨g', cap', rfl⟩ := ownsRow_succ hown'; rw [← rwCs_app] at hown'; have G2 := Lib.hid (Gt.out.more HM.out hown' hgrow); have v1 := Gt.out.bO.kept hgrow (Gt.out.bO.not_row (by decide) Gt.out.oO); have hc1 := v1.cell; have hf1 := v1.frozen; have HB2 := Lib.hid (boxS_other (j := 0) (((HB.out.below G1.out.1).alloc (.cells #[.int .i64 no, .int .i64 dp, .string (strOf tx)] 83)).kept hgrow (own_ne HA.out)) HN.out (.slice (some ⟨g', 0, none⟩) (op.length + 1) cap')); have HK := Lib.hid ((((kb_below (c := W0.heap.size) G1.out.1).trans (kb_below (bal (b0 V1) (.cells #[.int .i64 no, .int .i64 dp, .string (strOf tx)] 83)))).trans (kb_grown Gt.out.oO hgrow (.inr rfl))).trans (kb_setc (B' := w.heap.size + 1 + 1 + 1) (j := 0) (.slice (some ⟨g', 0, none⟩) (op.length + 1) cap') (by have := HZ.out.1; omega))); obtain ⟨⟨y0, y1, y2⟩, y3⟩ := box3 HB2.out; clear hown' hgrow v1)
          | (refine ⟨trivial, rfl, ?_⟩; gi_at_call 55; refine (HT.out _).mono ?_; rintro e W ⟨rfl, rfl⟩))
        exact ⟨HK.out.post G2.out.mx, _, _, _, _, _, _, HGo.out, G2.out⟩
      | false =>
        rw [hc] at HT
        have HEn := Lib.hid (HE.out HI.out hc)
        have HLg := Lib.hid (fun h => L7.step_long (s := (op, l)) HI.out hc h)
        clear hc HE HG
        have HJ0 := Lib.hid (okx_join HBd.out (by simp only [List.length_append, List.length_singleton]; omega))
        obtain ⟨z, hz⟩ : ∃ z, joinR (op ++ [⟨no, dp, tx⟩]) = z := ⟨_, rfl⟩
        have HJ := Lib.hid (fun (W : World) (A2 : Option Addr) (c2 : Nat) (R : RR W A2 c2 (op ++ [⟨no, dp, tx⟩])) => show CallsIn (Fence.wide.inRound l2) 0 Tryd.prog 56 #[.slice A2 (op.length + 1) c2] W fun e w' => e = .returned (.agg #[.int .i64 z.no, .int .i64 z.dp, .string (strOf z.tx)]) ∧ Below W.heap.size W w' from hz ▸ CallsIn.inRound (n := 0) l2 (callsIn_wide.2 (joined_any R HBd.out (m := op.length + 1) (by simp) (by omega) (by omega))))
        dsimp only at *
        rw [hz] at HJ0 HEn HLg HR
        clear hz
        obtain ⟨zn, zd, zt⟩ := z
        dsimp only at *
        have HW := Lib.hid (fun W => show CallsIn (Fence.wide.inRound l2) 0 Tryd.prog 40 #[.agg #[.int .i64 zn, .int .i64 zd, .string (strOf zt)]] W fun e w' => e = .returned (.bool (within ⟨zn, zd, zt⟩)) ∧ Below W.heap.size W w' from CallsIn.inRound (n := 0) l2 (callsIn_wide.2 (isWithin_any ⟨zn, zd, zt⟩ HJ0.out W)))
        cases hw : within ⟨zn, zd, zt⟩ with
        | false =>
          rw [hw] at HW
          have HS := Lib.hid (HLg.out (by rw [hw]; simp))
          clear hw HEn HLg
          gi_wp2_with (first
            | (refine ⟨trivial, rfl, ?_⟩; gi_at_call 54; refine (CI.out).mono ?_; rintro e V1 ⟨rfl, b1⟩; have G1 := Lib.hid (And.intro b1 (G.out.2.grown b1)); have Gt := Lib.hid (G1.out.2.grown (bal (b0 V1) (.cells #[.int .i64 no, .int .i64 dp, .string (strOf tx)] 83))); have c1 := G1.out.2.bO.cell; obtain ⟨⟨x0, x1, x2⟩, x3⟩ := box3 (HB.out.below b1); clear b1)
            | (gi_at_builtin; refine wpListIn_append_own _ rfl _ _ 78 rfl w.heap.size 83 i0 (.agg #[.int .i64 0, .int .i64 0, .string ⟨#[]⟩]) 3 32 Tryd.underlying78 hi0 hz0 hz1 hz2 rfl (by decide) _ _ _ rfl Gt.out.oO ⟨V1.heap.size, 0, none⟩ 1 1 (rwCs [⟨no, dp, tx⟩]) rfl (by rw [rwCs_len]; rfl) ((rr_one (HBd.out.ok ⟨no, dp, tx⟩ (by simp)) (boxS_new V1 83 #[.int .i64 no, .int .i64 dp, .string (strOf tx)])).cells rfl) (rwCs_one _) (by unfold maxLen; omega) (by omega) Gt.out.bel.size ?_; intro v' w1 hown' hgrow _; obtain ⟨g', cap', rfl⟩ := ownsRow_succ hown'; rw [← rwCs_app] at hown'; have G2 := Lib.hid (Gt.out.more HM.out hown' hgrow); have v1 := Gt.out.bO.kept hgrow (Gt.out.bO.not_row (by decide) Gt.out.oO); have hc1 := v1.cell; have hf1 := v1.frozen; have HB2 := Lib.hid (boxS_other (j := 0) (((HB.out.below G1.out.1).alloc (.cells #[.int .i64 no, .int .i64 dp, .string (strOf tx)] 83)).kept hgrow (own_ne HA.out)) HN.out (.slice (some ⟨g', 0, none⟩) (op.length + 1) cap')); have HK := Lib.hid ((((kb_below (c := W0.heap.size) G1.out.1).trans (kb_below (bal (b0 V1) (.cells #[.int .i64 no, .int .i64 dp, .string (strOf tx)] 83)))).trans (kb_grown Gt.out.oO hgrow (.inr rfl))).trans (kb_setc (B' := w.heap.size + 1 + 1 + 1) (j := 0) (.slice (some ⟨g', 0, none⟩) (op.length + 1) cap') (by have := HZ.out.1; omega))); obtain ⟨⟨y0, y1, y2⟩, y3⟩ := box3 HB2.out; clear hown' hgrow v1)
            | (refine ⟨trivial, rfl, ?_⟩; gi_at_call 55; refine (HT.out _).mono ?_; rintro e W ⟨rfl, rfl⟩)
            | (refine ⟨trivial, rfl, ?_⟩; gi_at_call 56; refine (HJ.out _ _ _ (G2.out.oO.rr HBd.out.ok)).mono ?_; rintro e V2 ⟨rfl, b2⟩; have b3 := blw b2 (bal (b0 V2) (.cells #[.int .i64 zn, .int .i64 zd, .string (strOf zt)] 38)); have G3 := Lib.hid (G2.out.grown b3); have K3 := Lib.hid (HK.out.trans (kb_below b3)); have HD := Lib.hid (boxS_new V2 38 #[.int .i64 zn, .int .i64 zd, .string (strOf zt)]); clear b2 b3)
            | (refine ⟨trivial, rfl, ?_⟩; gi_at_call 40; refine (HW.out _).mono ?_; rintro e V3 ⟨rfl, b4⟩; have G4 := Lib.hid (G3.out.grown b4); have K4 := Lib.hid (K3.out.trans (kb_below b4)); have HD4 := Lib.hid (HD.out.below b4); have c4 := G4.out.bL.cell; have f4 := G4.out.bL.frozen; have c5 := G4.out.bI.cell; have f5 := G4.out.bI.frozen; have c6 := G4.out.bE.cell; have f6 := G4.out.bE.frozen; have z1 := (box3 HD4.out).1.1; clear b4))
          have x2 := cell_far (B := w.heap.size) (j := 0) (.slice none 0 0) z1 (by intro e; have h1 := G4.out.bL; have h2 := HD4.out; simp only at e; rw [e] at h2; unfold Boxed at h1; unfold BoxS at h2; rw [h1] at h2; cases h2)
          have HF := Lib.hid (stop_fin (b := W0.heap.size) (c5 := W0.heap.size) G4.out HM.out K4.out (by have := HZ.out.1; omega) G.out.1.1 HY.out HS.out)
          refine wpIn_region_any hmix ?_
          change wpAnyIn _ _ _ _ _ _ _ _ _ (World.drew _)
          refine any_round l2 (noDefer_all (by kernel_rfl)) _ _ _ _ ?_
          refine wpAnyIn_take (i := 0) (v := .pointer (some ⟨V2.heap.size, 0, none⟩)) rfl rfl (by kernel_rfl) (by kernel_rfl) (by kernel_rfl) (fun _ _ _ h => h) ⟨Or.inl ⟨by rfl, (by intro w; go_simp)⟩, fun _ => rfl⟩ ?_
          refine wpAnyIn_ready (rs := [1, 2]) (by kernel_rfl) (by simp) ?_
          refine AllReadyIn.cons rfl (fun K hK => ?_) (AllReadyIn.cons rfl (fun K hK => ?_) AllReadyIn.nil)
          · go_simp
            refine hK _ _ ?_
            clear hK K
            refine wpAnyIn_ready (rs := [2]) (by kernel_rfl) (by simp) ?_
            refine AllReadyIn.cons rfl (fun K hK => ?_) AllReadyIn.nil
            go_simp
            refine hK _ _ ?_
            clear hK K
            refine wpAnyIn_ready (rs := [3]) (by kernel_rfl) (by simp) ?_
            refine AllReadyIn.cons rfl (fun K hK => ?_) AllReadyIn.nil
            go_simp
            refine hK _ _ ?_
            clear hK K
            refine wpAnyIn_ready (rs := [4]) (by kernel_rfl) (by simp) ?_
            refine AllReadyIn.cons rfl (fun K hK => ?_) AllReadyIn.nil
            go_simp
            refine hK _ _ ?_
            clear hK K
            refine wpAnyIn_done (by kernel_rfl) ?_ _
            gi_wp2
            exact HF.out
          · go_simp
            refine hK _ _ ?_
            clear hK K
            refine wpAnyIn_ready (rs := [1]) (by kernel_rfl) (by simp) ?_
            refine AllReadyIn.cons rfl (fun K hK => ?_) AllReadyIn.nil
            go_simp
            refine hK _ _ ?_
            clear hK K
            refine wpAnyIn_ready (rs := [3]) (by kernel_rfl) (by simp) ?_
            refine AllReadyIn.cons rfl (fun K hK => ?_) AllReadyIn.nil
            go_simp
            refine hK _ _ ?_
            clear hK K
            refine wpAnyIn_ready (rs := [4]) (by kernel_rfl) (by simp) ?_
            refine AllReadyIn.cons rfl (fun K hK => ?_) AllReadyIn.nil
            go_simp
            refine hK _ _ ?_
            clear hK K
            refine wpAnyIn_done (by kernel_rfl) ?_ _
            gi_wp2
            exact HF.out
        | true =>
          rw [hw] at HW
          by_cases h48 : l.length = 2048
          · have HS := Lib.hid (HLg.out (by rw [h48]; simp))
            have hq : (((l.length : Nat) : Int) == 2048) = true := by rw [h48]; rfl
            have HQ := Lib.hid h48
            clear hw HEn HLg h48
            gi_wp2_with (first
              | (refine ⟨trivial, rfl, ?_⟩; gi_at_call 54; refine (CI.out).mono ?_; rintro e V1 ⟨rfl, b1⟩; have G1 := Lib.hid (And.intro b1 (G.out.2.grown b1)); have Gt := Lib.hid (G1.out.2.grown (bal (b0 V1) (.cells #[.int .i64 no, .int .i64 dp, .string (strOf tx)] 83))); have c1 := G1.out.2.bO.cell; obtain ⟨⟨x0, x1, x2⟩, x3⟩ := box3 (HB.out.below b1); clear b1)
              | (gi_at_builtin; refine wpListIn_append_own _ rfl _ _ 78 rfl w.heap.size 83 i0 (.agg #[.int .i64 0, .int .i64 0, .string ⟨#[]⟩]) 3 32 Tryd.underlying78 hi0 hz0 hz1 hz2 rfl (by decide) _ _ _ rfl Gt.out.oO ⟨V1.heap.size, 0, none⟩ 1 1 (rwCs [⟨no, dp, tx⟩]) rfl (by rw [rwCs_len]; rfl) ((rr_one (HBd.out.ok ⟨no, dp, tx⟩ (by simp)) (boxS_new V1 83 #[.int .i64 no, .int .i64 dp, .string (strOf tx)])).cells rfl) (rwCs_one _) (by unfold maxLen; omega) (by omega) Gt.out.bel.size ?_; intro v' w1 hown' hgrow _; obtain ⟨g', cap', rfl⟩ := ownsRow_succ hown'; rw [← rwCs_app] at hown'; have G2 := Lib.hid (Gt.out.more HM.out hown' hgrow); have v1 := Gt.out.bO.kept hgrow (Gt.out.bO.not_row (by decide) Gt.out.oO); have hc1 := v1.cell; have hf1 := v1.frozen; have HB2 := Lib.hid (boxS_other (j := 0) (((HB.out.below G1.out.1).alloc (.cells #[.int .i64 no, .int .i64 dp, .string (strOf tx)] 83)).kept hgrow (own_ne HA.out)) HN.out (.slice (some ⟨g', 0, none⟩) (op.length + 1) cap')); have HK := Lib.hid ((((kb_below (c := W0.heap.size) G1.out.1).trans (kb_below (bal (b0 V1) (.cells #[.int .i64 no, .int .i64 dp, .string (strOf tx)] 83)))).trans (kb_grown Gt.out.oO hgrow (.inr rfl))).trans (kb_setc (B' := w.heap.size + 1 + 1 + 1) (j := 0) (.slice (some ⟨g', 0, none⟩) (op.length + 1) cap') (by have := HZ.out.1; omega))); obtain ⟨⟨y0, y1, y2⟩, y3⟩ := box3 HB2.out; clear hown' hgrow v1)
              | (refine ⟨trivial, rfl, ?_⟩; gi_at_call 55; refine (HT.out _).mono ?_; rintro e W ⟨rfl, rfl⟩)
              | (refine ⟨trivial, rfl, ?_⟩; gi_at_call 56; refine (HJ.out _ _ _ (G2.out.oO.rr HBd.out.ok)).mono ?_; rintro e V2 ⟨rfl, b2⟩; have b3 := blw b2 (bal (b0 V2) (.cells #[.int .i64 zn, .int .i64 zd, .string (strOf zt)] 38)); have G3 := Lib.hid (G2.out.grown b3); have K3 := Lib.hid (HK.out.trans (kb_below b3)); have HD := Lib.hid (boxS_new V2 38 #[.int .i64 zn, .int .i64 zd, .string (strOf zt)]); clear b2 b3)
              | (refine ⟨trivial, rfl, ?_⟩; gi_at_call 40; refine (HW.out _).mono ?_; rintro e V3 ⟨rfl, b4⟩; have G4 := Lib.hid (G3.out.grown b4); have K4 := Lib.hid (K3.out.trans (kb_below b4)); have HD4 := Lib.hid (HD.out.below b4); have c4 := G4.out.bL.cell; have f4 := G4.out.bL.frozen; have c5 := G4.out.bI.cell; have f5 := G4.out.bI.frozen; have c6 := G4.out.bE.cell; have f6 := G4.out.bE.frozen; have z1 := (box3 HD4.out).1.1; clear b4))
            have x2 := cell_far (B := w.heap.size) (j := 0) (.slice none 0 0) z1 (by intro e; have h1 := G4.out.bL; have h2 := HD4.out; simp only at e; rw [e] at h2; unfold Boxed at h1; unfold BoxS at h2; rw [h1] at h2; cases h2)
            have HF := Lib.hid (stop_fin (b := W0.heap.size) (c5 := W0.heap.size) G4.out HM.out K4.out (by have := HZ.out.1; omega) G.out.1.1 HY.out HS.out)
            refine wpIn_region_any hmix ?_
            change wpAnyIn _ _ _ _ _ _ _ _ _ (World.drew _)
            refine any_round l2 (noDefer_all (by kernel_rfl)) _ _ _ _ ?_
            refine wpAnyIn_take (i := 0) (v := .pointer (some ⟨V2.heap.size, 0, none⟩)) rfl rfl (by kernel_rfl) (by kernel_rfl) (by kernel_rfl) (fun _ _ _ h => h) ⟨Or.inl ⟨by rfl, (by intro w; go_simp)⟩, fun _ => rfl⟩ ?_
            refine wpAnyIn_ready (rs := [1, 2]) (by kernel_rfl) (by simp) ?_
            refine AllReadyIn.cons rfl (fun K hK => ?_) (AllReadyIn.cons rfl (fun K hK => ?_) AllReadyIn.nil)
            · go_simp
              refine hK _ _ ?_
              clear hK K
              refine wpAnyIn_ready (rs := [2]) (by kernel_rfl) (by simp) ?_
              refine AllReadyIn.cons rfl (fun K hK => ?_) AllReadyIn.nil
              go_simp
              refine hK _ _ ?_
              clear hK K
              refine wpAnyIn_ready (rs := [3]) (by kernel_rfl) (by simp) ?_
              refine AllReadyIn.cons rfl (fun K hK => ?_) AllReadyIn.nil
              go_simp
              refine hK _ _ ?_
              clear hK K
              refine wpAnyIn_ready (rs := [4]) (by kernel_rfl) (by simp) ?_
              refine AllReadyIn.cons rfl (fun K hK => ?_) AllReadyIn.nil
              go_simp
              refine hK _ _ ?_
              clear hK K
              refine wpAnyIn_done (by kernel_rfl) ?_ _
              gi_wp2
              exact HF.out
            · go_simp
              refine hK _ _ ?_
              clear hK K
              refine wpAnyIn_ready (rs := [1]) (by kernel_rfl) (by simp) ?_
              refine AllReadyIn.cons rfl (fun K hK => ?_) AllReadyIn.nil
              go_simp
              refine hK _ _ ?_
              clear hK K
              refine wpAnyIn_ready (rs := [3]) (by kernel_rfl) (by simp) ?_
              refine AllReadyIn.cons rfl (fun K hK => ?_) AllReadyIn.nil
              go_simp
              refine hK _ _ ?_
              clear hK K
              refine wpAnyIn_ready (rs := [4]) (by kernel_rfl) (by simp) ?_
              refine AllReadyIn.cons rfl (fun K hK => ?_) AllReadyIn.nil
              go_simp
              refine hK _ _ ?_
              clear hK K
              refine wpAnyIn_done (by kernel_rfl) ?_ _
              gi_wp2
              exact HF.out
          · have hq : (((l.length : Nat) : Int) == 2048) = false := by
              rw [Bool.eq_false_iff]; intro e; apply h48; have := eq_of_beq e; omega
            have HP := Lib.hid (HEn.out hw h48)
            clear hw HEn HLg h48
            gi_wp2_with (first
              | (refine ⟨trivial, rfl, ?_⟩; gi_at_call 54; refine (CI.out).mono ?_; rintro e V1 ⟨rfl, b1⟩; have G1 := Lib.hid (And.intro b1 (G.out.2.grown b1)); have Gt := Lib.hid (G1.out.2.grown (bal (b0 V1) (.cells #[.int .i64 no, .int .i64 dp, .string (strOf tx)] 83))); have c1 := G1.out.2.bO.cell; obtain ⟨⟨x0, x1, x2⟩, x3⟩ := box3 (HB.out.below b1); clear b1)
              | (gi_at_builtin; refine wpListIn_append_own _ rfl _ _ 78 rfl w.heap.size 83 i0 (.agg #[.int .i64 0, .int .i64 0, .string ⟨#[]⟩]) 3 32 Tryd.underlying78 hi0 hz0 hz1 hz2 rfl (by decide) _ _ _ rfl Gt.out.oO ⟨V1.heap.size, 0, none⟩ 1 1 (rwCs [⟨no, dp, tx⟩]) rfl (by rw [rwCs_len]; rfl) ((rr_one (HBd.out.ok ⟨no, dp, tx⟩ (by simp)) (boxS_new V1 83 #[.int .i64 no, .int .i64 dp, .string (strOf tx)])).cells rfl) (rwCs_one _) (by unfold maxLen; omega) (by omega) Gt.out.bel.size ?_; intro v' w1 hown' hgrow _; obtain ⟨g', cap', rfl⟩ := ownsRow_succ hown'; rw [← rwCs_app] at hown'; have G2 := Lib.hid (Gt.out.more HM.out hown' hgrow); have v1 := Gt.out.bO.kept hgrow (Gt.out.bO.not_row (by decide) Gt.out.oO); have hc1 := v1.cell; have hf1 := v1.frozen; have HB2 := Lib.hid (boxS_other (j := 0) (((HB.out.below G1.out.1).alloc (.cells #[.int .i64 no, .int .i64 dp, .string (strOf tx)] 83)).kept hgrow (own_ne HA.out)) HN.out (.slice (some ⟨g', 0, none⟩) (op.length + 1) cap')); have HK := Lib.hid ((((kb_below (c := W0.heap.size) G1.out.1).trans (kb_below (bal (b0 V1) (.cells #[.int .i64 no, .int .i64 dp, .string (strOf tx)] 83)))).trans (kb_grown Gt.out.oO hgrow (.inr rfl))).trans (kb_setc (B' := w.heap.size + 1 + 1 + 1) (j := 0) (.slice (some ⟨g', 0, none⟩) (op.length + 1) cap') (by have := HZ.out.1; omega))); obtain ⟨⟨y0, y1, y2⟩, y3⟩ := box3 HB2.out; clear hown' hgrow v1)
              | (refine ⟨trivial, rfl, ?_⟩; gi_at_call 55; refine (HT.out _).mono ?_; rintro e W ⟨rfl, rfl⟩)
              | (refine ⟨trivial, rfl, ?_⟩; gi_at_call 56; refine (HJ.out _ _ _ (G2.out.oO.rr HBd.out.ok)).mono ?_; rintro e V2 ⟨rfl, b2⟩; have b3 := blw b2 (bal (b0 V2) (.cells #[.int .i64 zn, .int .i64 zd, .string (strOf zt)] 38)); have G3 := Lib.hid (G2.out.grown b3); have K3 := Lib.hid (HK.out.trans (kb_below b3)); have HD := Lib.hid (boxS_new V2 38 #[.int .i64 zn, .int .i64 zd, .string (strOf zt)]); clear b2 b3)
              | (refine ⟨trivial, rfl, ?_⟩; gi_at_call 40; refine (HW.out _).mono ?_; rintro e V3 ⟨rfl, b4⟩; have G4 := Lib.hid (G3.out.grown b4); have K4 := Lib.hid (K3.out.trans (kb_below b4)); have HD4 := Lib.hid (HD.out.below b4); have c4 := G4.out.bL.cell; have f4 := G4.out.bL.frozen; have c5 := G4.out.bI.cell; have f5 := G4.out.bI.frozen; have c6 := G4.out.bE.cell; have f6 := G4.out.bE.frozen; have z1 := (box3 HD4.out).1.1; clear b4))
            obtain ⟨T, hT⟩ : ∃ T : Obj, T = .cells #[.int .i64 zn, .int .i64 zd, .string (strOf zt)] 38 := ⟨_, rfl⟩
            have G5 := Lib.hid (G4.out.grown (show Below V3.heap.size V3 (V3.alloc T).drew from bdrew (bal (b0 V3) T) 1))
            have e1 : (op ++ [(⟨no, dp, tx⟩ : Rw)]).length = op.length + 1 := by simp
            have hlen2 := HO.out.2.2
            obtain ⟨A9, c9, w9, hap, ho9, hg9⟩ := run_rws (w := (V3.alloc T).drew) (ty := 22) G5.out.oL (ys := [⟨zn, zd, zt⟩]) (m := 1) (d := 1) (A' := some ⟨V3.heap.size, 0, none⟩) rfl (by decide) (rr_one (e := 38) HJ0.out (by rw [hT]; exact boxS_new V3 38 #[.int .i64 zn, .int .i64 zd, .string (strOf zt)])) (by omega) G5.out.bel.size
            obtain ⟨g9, c9', he9⟩ := ownsRow_succ ho9
            injection he9 with he1 _ he2
            subst he1 he2
            have G6 := Lib.hid (G5.out.done HM.out ho9 hg9)
            have o9 := G5.out.bO.kept hg9 (G5.out.bO.not_row (by decide) G5.out.oL)
            have l9 := G5.out.bL.kept hg9 (G5.out.bL.not_row (by decide) G5.out.oL)
            have HF := Lib.hid (show (KeepsFrom W0.heap.size V _ ∧ KpL W0.heap.size V _) ∧ IG w (pre ++ [x]) _ from
              ⟨((((K4.out.trans (kb_below (show Below V3.heap.size V3 (V3.alloc T).drew from bdrew (bal (b0 V3) T) 1))).trans (kb_grown G5.out.oL hg9 (.inl rfl))).trans (kb_setc (B' := w.heap.size) (j := 0) (.slice (some ⟨g9, 0, none⟩) (l.length + 1) c9) (by have := HZ.out.1; omega))).trans (kb_setc (B' := w.heap.size + 1 + 1 + 1) (j := 0) (.slice (some ⟨g', 0, none⟩) 0 cap') (by have := HZ.out.1; omega))).post G6.out.mx, _, _, _, _, _, _, HP.out, G6.out⟩)
            have d1 := G4.out.bO.cell
            have d2 := (G4.out.bO.alloc T).cell
            have d3 := o9.cell
            have d4 := o9.frozen
            have d5 := (G4.out.bL.alloc T).cell
            have d6 := l9.cell
            have d7 := l9.frozen
            have o10 := o9.other (B' := w.heap.size) (by omega) (.slice (some ⟨g9, 0, none⟩) (l.length + 1) c9)
            have d8 := o10.cell
            have d9 := o10.frozen
            rw [e1] at d1 d2 d3 d8
            obtain ⟨⟨z10, z11, z12⟩, z13⟩ := box3 HD4.out
            clear o10 o9 l9 hg9 ho9 G6 G5 e1
            subst hT
            refine wpIn_region_any hmix ?_
            change wpAnyIn _ _ _ _ _ _ _ _ _ (World.drew _)
            refine any_round l2 (noDefer_all (by kernel_rfl)) _ _ _ _ ?_
            change wpAnyIn _ _ _ _ _ _ 8 (Array.replicate 8 false) _ _
            exact region11 c4 d1 d2 d5 d3 d4 d6 d7 d8 d9 z10 z11 z12 hap (by have := (G4.out.oO.rr HBd.out.ok).le; simp only [List.length_append, List.length_singleton] at this; exact this) (G4.out.oO.rr HBd.out.ok).mx (fun _ => HF.out)
  case done =>
    rintro D ys V hD rfl ⟨A, c, l, A', c', op, hp, g⟩ hK
    have E := Lib.hid (grp_done hs hbl hp)
    have G := Lib.hid g
    have HK := Lib.hid hK
    have HD := Lib.hid (show w.heap.size + 4 ≤ D by omega)
    have hopl : op.length ≤ 65537 := by have := hp.2.2.2.2; have := items_len (lnsOf s) 1; have := (lns_len s).2; omega
    have c1 := g.bO.cell
    have c2 := g.bL.cell
    have f2 := g.bL.frozen
    have c3 := g.bI.cell
    have f3 := g.bI.frozen
    have c4 := g.bE.cell
    have f4 := g.bE.frozen
    have HOp := Lib.hid hp.2.1
    clear hK hp g bL bI bE bO bS hB0 hM0 hs hbl
    by_cases h0 : op.length = 0
    · rw [if_pos h0] at E
      have q0 : ¬ ((0 : Int) < ((op.length : Nat) : Int)) := by omega
      have HZ := Lib.hid h0
      clear h0
      have HK3 := Lib.hid (other_set (j := 0) (v := .int .i64 0) (other_set (j := 0) (v := .int .i64 0) (other_set (j := 0) (v := .slice A l.length c) HK.out (B' := w.heap.size) (by have := HD.out; omega)) (B' := w.heap.size + 1) (by have := HD.out; omega)) (B' := w.heap.size + 1 + 1) (by have := HD.out; omega))
      have HO3 := Lib.hid (show OwnR (((V.setCell ⟨w.heap.size, 0, none⟩ (.slice A l.length c)).setCell ⟨w.heap.size + 1, 0, none⟩ (.int .i64 0)).setCell ⟨w.heap.size + 1 + 1, 0, none⟩ (.int .i64 0)) 38 w.heap.size A l.length c l from
        let r1 := World.ownsRow.kept G.out.oL (grownBy_setCell' V w.heap.size (.slice A l.length c)) (.inr (G.out.bL.not_row (by decide) G.out.oL).symm)
        let r2 := World.ownsRow.kept r1 (grownBy_setCell' _ (w.heap.size + 1) (.int .i64 0)) (.inr ((G.out.bI.other (B' := w.heap.size) (by omega) (.slice A l.length c)).not_row (by decide) r1).symm)
        World.ownsRow.kept r2 (grownBy_setCell' _ (w.heap.size + 1 + 1) (.int .i64 0)) (.inr (((G.out.bE.other (B' := w.heap.size) (by omega) (.slice A l.length c)).other (B' := w.heap.size + 1) (by omega) (.int .i64 0)).not_row (by decide) r2).symm))
      gi_wp2
      have HE := Lib.hid (grp_end (((G.out.bL.set (.slice A l.length c)).other (by omega) (.int .i64 0)).other (by omega) (.int .i64 0)) (((G.out.bI.other (by omega) (.slice A l.length c)).set (.int .i64 0)).other (by omega) (.int .i64 0)) (((G.out.bE.other (by omega) (.slice A l.length c)).other (by omega) (.int .i64 0)).set (.int .i64 0)) (bset (bset (bset G.out.bel (by omega) _) (by omega) _) (by omega) _) (other_set (j := 0) (other_set (j := 0) (other_set (j := 0) HK.out (by have := HD.out; omega) _) (by have := HD.out; omega) _) (by have := HD.out; omega) _) HD.out)
      obtain ⟨k0, k1, k2, kb, ko⟩ := HE.out
      have KO := Lib.hid (And.intro (ko _ _ _ _ HO3.out) kb)
      clear ko kb
      try rw [Exit.noGoto_ret]
      refine ⟨by simp, .inl ⟨_, _, rfl, run_takeDeferred HK3.out, ?_⟩⟩
      refine ⟨.tuple #[.slice A l.length c, .int .i64 0, .int .i64 0], ?_, ?_⟩
      · simp [results, Tryd.f30, go_sem, k0, k1, k2]
      · exact givesR_ok E.out KO.out.1 KO.out.2
    · rw [if_neg h0] at E
      obtain ⟨ad, rfl, g0, g1, g2⟩ := (G.out.oO.rr HOp.out.ok).rd (op.length - 1) (by omega)
      have e1 : ((op.length - 1 : Nat) : Int) = ((op.length : Nat) : Int) - 1 := by omega
      have e2 : (((op.length : Nat) : Int) - 1).toNat = op.length - 1 := by omega
      have q0 : (0 : Int) < ((op.length : Nat) : Int) := by omega
      have q1 : (0 : Int) ≤ ((op.length : Nat) : Int) - 1 := by omega
      generalize op.getD (op.length - 1) r0 = x at *
      obtain ⟨no, dp, tx⟩ := x
      dsimp only at *
      have hnb : ad.block ≠ w.heap.size := fun e => (G.out.bL.not_row (by decide) G.out.oO) (by show some w.heap.size = some ad.block; rw [e])
      have x0 := cell_far (B := w.heap.size) (j := 0) (.slice none 0 0) g0 (by rw [add_block]; exact hnb)
      have x1 := (G.out.bO.other (B' := w.heap.size) (by omega) (.slice none 0 0)).cell
      have HK3 := Lib.hid (other_set (j := 0) (v := .int .i64 5) (other_set (j := 0) (v := .int .i64 no) (other_set (j := 0) (v := .slice none 0 0) HK.out (B' := w.heap.size) (by have := HD.out; omega)) (B' := w.heap.size + 1) (by have := HD.out; omega)) (B' := w.heap.size + 1 + 1) (by have := HD.out; omega))
      have HS := Lib.hid (G.out.stop HM.out no 5)
      have HE := Lib.hid (grp_end (U := ((((V.setCell ⟨w.heap.size, 0, none⟩ (.slice none 0 0)).setCell ⟨w.heap.size + 1, 0, none⟩ (.int .i64 no)).setCell ⟨w.heap.size + 1 + 1, 0, none⟩ (.int .i64 5)).drew)) HS.out.1.1 HS.out.1.2.1 HS.out.1.2.2 (bdrew HS.out.2.2 1) HK3.out HD.out)
      clear g1 g2
      gi_wp2
      gi_region
      all_goals gi_wp2
      all_goals (
        obtain ⟨k0, k1, k2, kb, _⟩ := HE.out
        have KB := Lib.hid kb
        clear kb
        try rw [Exit.noGoto_ret]
        refine ⟨by simp, .inl ⟨_, _, rfl, run_takeDeferred (show _ = _ from HK3.out), ?_⟩⟩
        refine ⟨.tuple #[.slice none 0 0, .int .i64 no, .int .i64 5], ?_, ?_⟩
        · simp [results, Tryd.f30, go_sem, k0, k1, k2]
        · exact givesR_err E.out KB.out)
  case stop =>
    rintro D co pre V hD hpre ⟨rfl, ini, x, op, l, n, e, rfl, hp, hx, hL, h1, h2, hB⟩ hK
    have E := Lib.hid (grp_stop hs hbl hp hx hpre)
    obtain ⟨k0, k1, k2, kb, _⟩ := grp_end hL h1 h2 hB hK (by omega)
    have KB := Lib.hid kb
    have HK := Lib.hid hK
    clear hpre hp hx hL h1 h2 hB hK kb
    gi_wp2
    rw [Exit.noGoto_ret]
    refine ⟨by simp, .inl ⟨_, _, rfl, run_takeDeferred HK.out, ?_⟩⟩
    refine ⟨.tuple #[.slice none 0 0, .int .i64 n, .int .i64 e], ?_, ?_⟩
    · simp [results, Tryd.f30, go_sem, k0, k1, k2]
    · exact givesR_err E.out KB.out
end Go.Proofs.YtkhmpmjonkmbeaaDoor
