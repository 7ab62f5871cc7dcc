/- A range over a function whose iterator keeps state of its own in boxes of one string or one number: a law of the walk. -/
import Derived.RangeFuncNested
import Derived.RangeFuncBound
import Derived.RangeFuncCalls
import Derived.RangeFuncLeaves
import Derived.Shelf.Abstract
import Derived.Shelf.RegionOpen
import Derived.Test.YtkhmpmjonkmbeaaDoorKit
import Derived.OwnWalkIn
import Derived.TacticsInMore
import Derived.LoopNIn
import Derived.LoopIn
import Derived.Maps.AppendAt
set_option linter.unusedVariables false
set_option linter.unusedSimpArgs false
namespace Go.Proofs.YtkhmpmjonkmbeaaDoor
open Go Go.RowKit Go.Shelf

/-- What an iterator may turn between two rounds: no cells, or a box of one string or of one number. -/
def Soft (o : Obj) : Prop := o.isCells = false ∨ (∃ v, o = .cells #[v] 9 (0, 0)) ∨ ∃ v, o = .cells #[v] 3 (0, 0)
theorem soft_str {W : World} {B : Nat} {v : Value} (h : Boxed W B 9 v) : ∃ o, W.heap[B]? = some o ∧ Soft o := ⟨_, h, .inr (.inl ⟨_, rfl⟩)⟩
theorem soft_int {W : World} {B : Nat} {v : Value} (h : Boxed W B 3 v) : ∃ o, W.heap[B]? = some o ∧ Soft o := ⟨_, h, .inr (.inr ⟨_, rfl⟩)⟩
/-- What stands whatever is turned among the blocks of 'ok'. -/
def Abd {β : Type} (ok : Nat → Prop) (J : β → World → Prop) : Prop := ∀ s X Y row, J s X → X.grownBy Y row → (∀ r, row = some r → ok r ∧ ∃ o, X.heap[r]? = some o ∧ Soft o) → J s Y
theorem Abd.grown {β : Type} {ok : Nat → Prop} {J : β → World → Prop} (h : Abd ok J) {s : β} {X Y : World} (hs : J s X) (hg : X.grownBy Y none) : J s Y := h s X Y none hs hg (fun _ e => (by cases e))
theorem Abd.put {β : Type} {ok : Nat → Prop} {J : β → World → Prop} (h : Abd ok J) {s : β} {X : World} {l : Nat} {o : Obj} (o' : Obj) (hs : J s X) (hB : ok l) (hl : X.heap[l]? = some o) (ho : o.isCells = false) : J s (X.putObj l o') :=
  h s X _ (some l) hs (grownBy_putObj' X l o') (fun r e => by cases e; exact ⟨hB, o, hl, .inl ho⟩)
theorem Abd.and {β : Type} {ok : Nat → Prop} {J K : β → World → Prop} (h : Abd ok J) (k : Abd ok K) : Abd ok (fun s W => J s W ∧ K s W) := fun s X Y row hs hg hr => ⟨h s X Y row hs.1 hg hr, k s X Y row hs.2 hg hr⟩
theorem abd_pure {β : Type} (ok : Nat → Prop) (p : β → Prop) : Abd ok (fun s (_ : World) => p s) := fun _ _ _ _ hs _ _ => hs
/-- A box that is none of those. -/
theorem abd_box {β : Type} {ok : Nat → Prop} {B : Nat} (hB : ¬ ok B) (t : TypeId) (f : β → Value) : Abd ok (fun s W => Boxed W B t (f s)) := fun s X Y row hs hg hr =>
  Boxed.kept hs hg (fun e => hB (hr B e.symm).1)
theorem abd_below {β : Type} {ok : Nat → Prop} {n : Nat} {w : World} (hn : n ≤ w.heap.size) (h : ∀ r, ok r → n ≤ r) : Abd ok (fun (_ : β) W => Below n w W) := fun s X Y row hs hg hr =>
  Below.grown hs hg (Nat.le_trans hn hs.size) (fun k e => h k (hr k e).1)

/-- The contract of such an iterator; 'own': its own boxes that lay ahead of the call. -/
def SeqS {α : Type} (P : Program) (own : Nat → Prop) (gf : Nat) (lb : Array Value) (encs : α → Array Value) (Kp : World → World → Prop) (S Sp : List α → Prop) (w : World) : Prop :=
  ∀ (l : Nat) (J Jx : List α → World → Prop) (W : World), Below w.heap.size w W → Abd (fun r => own r ∨ W.heap.size ≤ r) J → Abd (fun r => own r ∨ W.heap.size ≤ r) Jx →
    (∀ pre x V, J pre V → Sp (pre ++ [x]) → YieldAt Fence.wide 0 P l (encs x) V fun e V' => ((e = .returned (.bool true) ∧ J (pre ++ [x]) V') ∨ (e = .returned (.bool false) ∧ Jx (pre ++ [x]) V')) ∧ Kp V V') →
    J [] W →
    CallsIn Fence.wide 0 P gf (#[.func (.yield l) #[] #[]] ++ lb) W fun e W' => (∃ v, e = .returned v) ∧ ((∃ xs, S xs ∧ J xs W') ∨ ∃ pre, Sp pre ∧ Jx pre W')

/-- How the body of such a loop may be left. -/
def postS {α : Type} (B : Nat) (Kp : World → World → Prop) (I : List α → World → Prop) (Ix : Code → List α → World → Prop) (xs : List α) (W : World) : Exit → Act → World → Prop
  | .normal, _, V => (KeepsFrom B W V ∧ Kp W V) ∧ I xs V
  | .ret, _, V => (KeepsFrom B W V ∧ Kp W V) ∧ Ix .ret xs V
  | .exit k, _, V => (KeepsFrom B W V ∧ Kp W V) ∧ Ix (.exit k) xs V
  | .goto k, _, V => (KeepsFrom B W V ∧ Kp W V) ∧ Ix (.goto k) xs V
  | .panic _, _, _ => False
  | .outgrown, _, _ => False

theorem range_soft {α : Type} {P : Program} {n : Nat} {g : Operand} {ps : Array Tmp} {asg body : Code} {Q : Exit → Act → World → Prop} {a : Act} {w : World} {own : Nat → Prop} (hown : ∀ r, own r → r < w.heap.size)
    {gf : Nat} {lb : Array Value} (hg : a.eval g = .func (.func gf) #[] lb) (eg : ∀ args w, (callFunc gf args).run P w = .ok (.enter gf args) w)
    {encs : α → Array Value} {Kp : World → World → Prop} {S Sp : List α → Prop} {w0 : World} (hseq : SeqS P own gf lb encs Kp S Sp w0)
    (hKt : ∀ {A B C : World}, Kp A B → Kp B C → Kp A C) (hKb : ∀ (W : World) (o o' : Obj), W.heap[w.heap.size + 1]? = some o → o.isCells = false → Kp W (W.putObj (w.heap.size + 1) o')) (hb0 : Below w0.heap.size w0 w) (hps : ∀ x, (encs x).size = ps.size)
    (I : List α → World → Prop) (Ix : Code → List α → World → Prop) (hI : Abd (fun r => own r ∨ w.heap.size ≤ r) I) (hIx : ∀ c, Abd (fun r => own r ∨ w.heap.size ≤ r) (Ix c)) (h0 : I [] w)
    (Ax : α → Act → World → Prop) (hAx : ∀ x a' (W : World) (o o' : Obj), Ax x a' W → W.heap[w.heap.size + 1]? = some o → o.isCells = false → Ax x a' (W.putObj (w.heap.size + 1) o'))
    (hassign : ∀ (l : Nat) (pre : List α) (x : α) (W : World) (K : Act → World → Prop), I pre W → (∀ a' W', KeepsFrom w.heap.size W W' → Kp W W' → I pre W' → Ax x a' W' → K a' W') →
      asg.wpIn (Fence.wide.inRound l) 0 P (Exit.then K (fun _ _ _ => False)) { tmps := (ps.zip (encs x)).foldl (fun t (p, v) => t.setIfInBounds p v) a.tmps, defers := [] } W)
    (hbody : ∀ (l : Nat) (pre : List α) (x : α) (a' : Act) (W : World), I pre W → Ax x a' W → Sp (pre ++ [x]) → body.wpIn (Fence.wide.inRound l) 0 P (postS w.heap.size Kp I Ix (pre ++ [x]) W) a' W)
    (hdone : ∀ (D : Nat) (xs : List α) (W : World), w.heap.size ≤ D → S xs → I xs W → W.heap[D]? = some (.deferred (some [])) → Q .normal { a with defers := { target := .collected D, args := #[] } :: a.defers } W)
    (hstop : ∀ (D : Nat) (c : Code) (pre : List α) (W : World), w.heap.size ≤ D → Sp pre → Ix c pre W → W.heap[D]? = some (.deferred (some [])) → c.wpIn Fence.wide n P Q { a with defers := { target := .collected D, args := #[] } :: a.defers } W) :
    (Code.rangeFunc g ps asg body).wpIn Fence.wide n P Q a w := by
  refine wpIn_rangeFunc ?_
  intro fn hfn
  obtain ⟨rc, hrc⟩ : ∃ rc : LoopState → Option Code → Loop, rc = fun st j => { state := st, pending := j, fn, tmps := a.tmps, params := ps, assign := asg, body, defers := w.heap.size } := ⟨_, rfl⟩
  obtain ⟨D, hD⟩ : ∃ D, w.heap.size = D := ⟨_, rfl⟩
  obtain ⟨V, hV⟩ : ∃ V, (w.alloc (.deferred (some []))).alloc (.loop (rc .ready none)) = V := ⟨_, rfl⟩
  have e1 : (w.alloc (.deferred (some []))).heap.size = D + 1 := by rw [World.size_alloc, hD]
  have hVs : V.heap.size = D + 2 := by rw [← hV, World.size_alloc, e1]
  have hVl : V.heap[D + 1]? = some (.loop (rc .ready none)) := by
    have h := World.alloc_heap_new (w.alloc (.deferred (some []))) (.loop (rc .ready none))
    rw [e1, hV] at h; exact h
  have hVd : V.heap[D]? = some (.deferred (some [])) := by
    have h := World.alloc_heap_new w (.deferred (some []))
    rw [hD] at h
    rw [← hV]
    exact (Below.heap_alloc _ _ D (by omega)).trans h
  have hVI : I [] V := by
    rw [← hV]
    exact hI.grown (hI.grown h0 (World.grownBy_alloc _ _ none)) (World.grownBy_alloc _ _ none)
  have hVb : Below w0.heap.size w0 V := by
    rw [← hV]; exact bal (bal hb0 _) _
  -- the two blocks of the loop stand whatever the iterator turns
  have two : ∀ {X Y : World} {row : Option Nat} {k : Nat} {o : Obj}, X.grownBy Y row → (∀ r, row = some r → (own r ∨ V.heap.size ≤ r) ∧ ∃ o, X.heap[r]? = some o ∧ Soft o) → D ≤ k → k < D + 2 → X.heap[k]? = some o → Y.heap[k]? = some o := by
    intro X Y row k o hgr hr hk1 hk2 hk
    refine (hgr.block k (Array.getElem?_eq_some_iff.1 hk).1 (fun e => ?_)).trans hk
    rcases (hr k e.symm).1 with h | h
    · have := hown k h; omega
    · omega
  have less : ∀ {X : World} {row : Option Nat}, (∀ r, row = some r → (own r ∨ V.heap.size ≤ r) ∧ ∃ o, X.heap[r]? = some o ∧ Soft o) → ∀ r, row = some r → (own r ∨ w.heap.size ≤ r) ∧ ∃ o, X.heap[r]? = some o ∧ Soft o := by
    intro X row hr r e
    obtain ⟨h1, h2⟩ := hr r e
    exact ⟨h1.imp id (fun h => by omega), h2⟩
  refine ⟨D + 1, [{ target := .collected D, args := #[] }], V, { target := .fn (.func gf) lb, args := #[.func (.yield (D + 1)) #[] #[]] }, V, gf, #[.func (.yield (D + 1)) #[] #[]] ++ lb, V, ?_, ?_, fun _ _ => trivial, ?_, (fun h => (by cases h)), ?_⟩
  · have h := run_enterLoop_outer (P := P) (w := w) fn a.tmps ps asg body
    rw [hD] at h
    rw [← hV, hrc, hD]
    exact h
  · simp only [resolve, hg]
    simp [go_sem]
  · simp [invoke, go_sem, eg]
  · refine callsIn_wide.2 (callsIn_wide.1 ((hseq (D + 1)
      (fun pre X => I pre X ∧ X.heap[D + 1]? = some (.loop (rc .ready none)) ∧ X.heap[D]? = some (.deferred (some [])))
      (fun pre X => ∃ c, Ix c pre X ∧ X.heap[D + 1]? = some (.loop (rc .done (some c))) ∧ X.heap[D]? = some (.deferred (some [])))
      V hVb
      (fun s X Y row hs hgr hr => ⟨hI s X Y row hs.1 hgr (less hr), two hgr hr (by omega) (by omega) hs.2.1, two hgr hr (by omega) (by omega) hs.2.2⟩)
      (fun s X Y row hs hgr hr => by
        obtain ⟨c, h1, h2, h3⟩ := hs
        exact ⟨c, hIx c s X Y row h1 hgr (less hr), two hgr hr (by omega) (by omega) h2, two hgr hr (by omega) (by omega) h3⟩)
      ?round ⟨hVI, hVl, hVd⟩).mono ?behind))
    case behind =>
      rintro e X ⟨⟨v, rfl⟩, (⟨xs, hS, h1, h2, h3⟩ | ⟨pre, hSp, c, h1, h2, h3⟩)⟩
      · have h4 : (Instr.endLoop (D + 1)).run P X = .ok none (X.putObj (D + 1) (.loop (rc .exhausted none))) := by
          have h := run_endLoop (P := P) h2 (by rw [hrc]; simp)
          rw [hrc] at h ⊢
          exact h
        exact ⟨none, _, h4, hdone D xs _ (by omega) hS (hI.put _ h1 (.inr (by omega)) h2 rfl) ((World.putObj_heap_other (by omega)).trans h3)⟩
      · have h4 : (Instr.endLoop (D + 1)).run P X = .ok (some c) (X.putObj (D + 1) (.loop (rc .exhausted (some c)))) := by
          have h := run_endLoop (P := P) h2 (by rw [hrc]; simp)
          rw [hrc] at h ⊢
          exact h
        exact ⟨some c, _, h4, hstop D c pre _ (by omega) hSp ((hIx c).put _ h1 (.inr (by omega)) h2 rfl) ((World.putObj_heap_other (by omega)).trans h3)⟩
    case round =>
      rintro pre x X ⟨h1, h2, h3⟩ hsp
      have hy := run_yield (P := P) (args := encs x) h2 (by rw [hrc]; exact hps x)
      rw [hrc] at hy
      refine ⟨fn, _, asg, body, hy, roundIn_of_wpIn hfn (hassign _ pre x X _ h1 ?_)⟩
      clear hy h1
      intro a' Y k1 k2 i1 ax
      have g2 := k1.same _ _ (by omega) h2 rfl
      have g3 := k1.same _ _ (by omega) h3 rfl
      clear h2 h3
      obtain ⟨b2, hb2⟩ : ∃ b2, (Obj.loop { rc .ready none with state := .busy }) = b2 := ⟨_, rfl⟩
      obtain ⟨Z, hZ⟩ : ∃ Z, Y.putObj (D + 1) b2 = Z := ⟨_, rfl⟩
      have hbeg := run_beginRound (P := P) g2 (by rw [hrc])
      rw [hb2, hZ] at hbeg
      refine ⟨Z, hbeg, ?_⟩
      have hl := (Array.getElem?_eq_some_iff.1 g2).1
      have z2 : Z.heap[D + 1]? = some b2 := by rw [← hZ]; exact World.putObj_heap_same hl
      have z3 : Z.heap[D]? = some (.deferred (some [])) := by rw [← hZ]; exact (World.putObj_heap_other (by omega)).trans g3
      have zK : Kp Y Z := by
        have := hKb Y _ b2 (by rw [hD]; exact g2) rfl
        rw [hD, hZ] at this; exact this
      have zI : I pre Z := by rw [← hZ]; exact hI.put _ i1 (.inr (by omega)) g2 rfl
      have zA : Ax x a' Z := by
        have := hAx x a' Y _ b2 ax (by rw [hD]; exact g2) rfl
        rw [hD, hZ] at this; exact this
      have hKb' : ∀ (U : World) (o' : Obj), U.heap[D + 1]? = some b2 → Kp U (U.putObj (D + 1) o') := fun U o' hU => by
        have := hKb U _ o' (by rw [hD]; exact hU) (by rw [← hb2]; rfl)
        rw [hD] at this; exact this
      have fin : ∀ (j : Option Code) (U : World), KeepsFrom w.heap.size Z U ∧ Kp Z U →
          (Instr.endRound (D + 1) j).run P U = .ok (.bool j.isNone) (U.putObj (D + 1) (.loop (rc (if j.isNone then .ready else .done) j))) ∧ U.heap[D + 1]? = some b2 ∧
          (U.putObj (D + 1) (.loop (rc (if j.isNone then .ready else .done) j))).heap[D + 1]? = some (.loop (rc (if j.isNone then .ready else .done) j)) ∧
          (U.putObj (D + 1) (.loop (rc (if j.isNone then .ready else .done) j))).heap[D]? = some (.deferred (some [])) ∧ Kp X (U.putObj (D + 1) (.loop (rc (if j.isNone then .ready else .done) j))) := by
        rintro j U ⟨u1, u2⟩
        have u3 := u1.same _ _ (by omega) z2 (by rw [← hb2]; rfl)
        have u4 := u1.same _ _ (by omega) z3 rfl
        have u5 : U.heap[D + 1]? = some (.loop { rc .ready none with state := .busy }) := by rw [hb2]; exact u3
        have h := run_endRound (P := P) j u5
        refine ⟨?_, u3, World.putObj_heap_same (Array.getElem?_eq_some_iff.1 u3).1, (World.putObj_heap_other (by omega)).trans u4, hKt k2 (hKt zK (hKt u2 (hKb' _ _ u3)))⟩
        rw [hrc] at h ⊢
        exact h
      have ho : b2.isCells = false := by rw [← hb2]; rfl
      refine wpIn_mono (hbody _ pre x a' Z zI zA hsp) ?_
      rintro e a3 U hp
      cases e with
      | normal =>
        obtain ⟨f1, f2, f3, f4, f5⟩ := fin none U hp.1
        exact ⟨_, _, f1, .inl ⟨rfl, hI.put _ hp.2 (.inr (by omega)) f2 ho, f3, f4⟩, f5⟩
      | ret =>
        obtain ⟨f1, f2, f3, f4, f5⟩ := fin (some .ret) U hp.1
        exact ⟨_, _, f1, .inr ⟨rfl, .ret, (hIx _).put _ hp.2 (.inr (by omega)) f2 ho, f3, f4⟩, f5⟩
      | exit k =>
        obtain ⟨f1, f2, f3, f4, f5⟩ := fin (some (.exit k)) U hp.1
        exact ⟨_, _, f1, .inr ⟨rfl, .exit k, (hIx _).put _ hp.2 (.inr (by omega)) f2 ho, f3, f4⟩, f5⟩
      | goto k =>
        obtain ⟨f1, f2, f3, f4, f5⟩ := fin (some (.goto k)) U hp.1
        exact ⟨_, _, f1, .inr ⟨rfl, .goto k, (hIx _).put _ hp.2 (.inr (by omega)) f2 ho, f3, f4⟩, f5⟩
      | panic k => exact hp.elim
      | outgrown => exact hp.elim
end Go.Proofs.YtkhmpmjonkmbeaaDoor
