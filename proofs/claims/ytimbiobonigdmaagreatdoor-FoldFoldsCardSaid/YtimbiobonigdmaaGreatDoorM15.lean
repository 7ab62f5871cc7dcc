/- A range over a function whose iterator keeps state of its own in boxes of one string or one number: a law of the walk. -/
import Derived.RangeFuncNested
import Derived.RangeFuncBound
import Derived.RangeFuncCalls
import Derived.RangeFuncLeaves
import Derived.Shelf.Abstract
import Derived.Shelf.RegionOpen
import Derived.OwnWalkIn
import Derived.TacticsInMore
import Derived.LoopNIn
import Derived.LoopIn
import Derived.Maps.AppendAt
import Derived.BigRegionIn
import Derived.WalkMore
import Derived.Outline
import Derived.Test.YtimbiobonigdmaaGreatDoorKit
import Derived.Test.YtimbiobonigdmaaGreatDoorM14
set_option linter.unusedVariables false
set_option linter.unusedSimpArgs false
set_option linter.unusedVariables false
set_option linter.unusedSimpArgs false
namespace Go.Proofs.YtimbiobonigdmaaGreatDoor
open Go Go.RowKit Go.Shelf

/-- What an iterator may turn between two rounds: no cells, or a box of one string or of one number. -/
def Soft (o : Obj) : Prop := o.isCells = false ∨ (∃ v, o = .cells #[v] 9 (0, 0)) ∨ ∃ v, o = .cells #[v] 3 (0, 0)
theorem soft_str {W : World} {B : Nat} {v : Value} (h : Boxed W B 9 v) : ∃ o, W.heap[B]? = some o ∧ Soft o := ⟨_, h, .inr (.inl ⟨_, rfl⟩)⟩
theorem soft_int {W : World} {B : Nat} {v : Value} (h : Boxed W B 3 v) : ∃ o, W.heap[B]? = some o ∧ Soft o := ⟨_, h, .inr (.inr ⟨_, rfl⟩)⟩
/-- What stands whatever is turned among the blocks of 'ok'. -/
def Abd {β : Type} (ok : Nat → Prop) (J : β → World → Prop) : Prop := ∀ s X Y row, J s X → X.grownBy Y row → (∀ r, row = some r → ok r ∧ ∃ o, X.heap[r]? = some o ∧ Soft o) → J s Y
theorem Abd.grown {β : Type} {ok : Nat → Prop} {J : β → World → Prop} (h : Abd ok J) {s : β} {X Y : World} (hs : J s X) (hg : X.grownBy Y none) : J s Y := h s X Y none hs hg (fun _ e => (by cases e))
theorem Abd.put {β : Type} {ok : Nat → Prop} {J : β → World → Prop} (h : Abd ok J) {s : β} {X : World} {l : Nat} {o : Obj} (o' : Obj) (hs : J s X) (hB : ok l) (hl : X.heap[l]? = some o) (ho : o.isCells = false) : J s (X.putObj l o') :=
  h s X _ (some l) hs (grownBy_putObj' X l o') (fun r e => by cases e; exact ⟨hB, o, hl, .inl ho⟩)
theorem Abd.and {β : Type} {ok : Nat → Prop} {J K : β → World → Prop} (h : Abd ok J) (k : Abd ok K) : Abd ok (fun s W => J s W ∧ K s W) := fun s X Y row hs hg hr => ⟨h s X Y row hs.1 hg hr, k s X Y row hs.2 hg hr⟩
theorem abd_pure {β : Type} (ok : Nat → Prop) (p : β → Prop) : Abd ok (fun s (_ : World) => p s) := fun _ _ _ _ hs _ _ => hs
/-- A box that is none of those. -/
theorem abd_box {β : Type} {ok : Nat → Prop} {B : Nat} (hB : ¬ ok B) (t : TypeId) (f : β → Value) : Abd ok (fun s W => Boxed W B t (f s)) := fun s X Y row hs hg hr =>
  Boxed.kept hs hg (fun e => hB (hr B e.symm).1)
theorem abd_below {β : Type} {ok : Nat → Prop} {n : Nat} {w : World} (hn : n ≤ w.heap.size) (h : ∀ r, ok r → n ≤ r) : Abd ok (fun (_ : β) W => Below n w W) := fun s X Y row hs hg hr =>
  Below.grown hs hg (Nat.le_trans hn hs.size) (fun k e => h k (hr k e).1)

/-- The contract of such an iterator; 'own': its own boxes that lay ahead of the call. -/
def SeqS {α : Type} (P : Program) (own : Nat → Prop) (gf : Nat) (lb : Array Value) (encs : α → Array Value) (Kp : World → World → Prop) (S Sp : List α → Prop) (w : World) : Prop :=
  ∀ (l : Nat) (J Jx : List α → World → Prop) (W : World), Below w.heap.size w W → Abd (fun r => own r ∨ W.heap.size ≤ r) J → Abd (fun r => own r ∨ W.heap.size ≤ r) Jx →
    (∀ pre x V, J pre V → Sp (pre ++ [x]) → YieldAt Fence.wide 0 P l (encs x) V fun e V' => ((e = .returned (.bool true) ∧ J (pre ++ [x]) V') ∨ (e = .returned (.bool false) ∧ Jx (pre ++ [x]) V')) ∧ Kp V V') →
    J [] W →
    CallsIn Fence.wide 0 P gf (#[.func (.yield l) #[] #[]] ++ lb) W fun e W' => (∃ v, e = .returned v) ∧ ((∃ xs, S xs ∧ J xs W') ∨ ∃ pre, Sp pre ∧ Jx pre W')

/-- How the body of such a loop may be left. -/
def postS {α : Type} (B : Nat) (Kp : World → World → Prop) (I : List α → World → Prop) (Ix : Code → List α → World → Prop) (xs : List α) (W : World) : Exit → Act → World → Prop
  | .normal, _, V => (KeepsFrom B W V ∧ Kp W V) ∧ I xs V
  | .ret, _, V => (KeepsFrom B W V ∧ Kp W V) ∧ Ix .ret xs V
  | .exit k, _, V => (KeepsFrom B W V ∧ Kp W V) ∧ Ix (.exit k) xs V
  | .goto k, _, V => (KeepsFrom B W V ∧ Kp W V) ∧ Ix (.goto k) xs V
  | .panic _, _, _ => False
  | .outgrown, _, _ => False

theorem range_soft {α : Type} {P : Program} {n : Nat} {g : Operand} {ps : Array Tmp} {asg body : Code} {Q : Exit → Act → World → Prop} {a : Act} {w : World} {own : Nat → Prop} (hown : ∀ r, own r → r < w.heap.size)
    {gf : Nat} {lb : Array Value} (hg : a.eval g = .func (.func gf) #[] lb) (eg : ∀ args w, (callFunc gf args).run P w = .ok (.enter gf args) w)
    {encs : α → Array Value} {Kp : World → World → Prop} {S Sp : List α → Prop} {w0 : World} (hseq : SeqS P own gf lb encs Kp S Sp w0)
    (hKt : ∀ {A B C : World}, Kp A B → Kp B C → Kp A C) (hKb : ∀ (W : World) (o o' : Obj), W.heap[w.heap.size + 1]? = some o → o.isCells = false → Kp W (W.putObj (w.heap.size + 1) o')) (hb0 : Below w0.heap.size w0 w) (hps : ∀ x, (encs x).size = ps.size)
    (I : List α → World → Prop) (Ix : Code → List α → World → Prop) (hI : Abd (fun r => own r ∨ w.heap.size ≤ r) I) (hIx : ∀ c, Abd (fun r => own r ∨ w.heap.size ≤ r) (Ix c)) (h0 : I [] w)
    (Ax : α → Act → World → Prop) (hAx : ∀ x a' (W : World) (o o' : Obj), Ax x a' W → W.heap[w.heap.size + 1]? = some o → o.isCells = false → Ax x a' (W.putObj (w.heap.size + 1) o'))
    (hassign : ∀ (l : Nat) (pre : List α) (x : α) (W : World) (K : Act → World → Prop), I pre W → (∀ a' W', KeepsFrom w.heap.size W W' → Kp W W' → I pre W' → Ax x a' W' → K a' W') →
      asg.wpIn (Fence.wide.inRound l) 0 P (Exit.then K (fun _ _ _ => False)) { tmps := (ps.zip (encs x)).foldl (fun t (p, v) => t.setIfInBounds p v) a.tmps, defers := [] } W)
    (hbody : ∀ (l : Nat) (pre : List α) (x : α) (a' : Act) (W : World), I pre W → Ax x a' W → Sp (pre ++ [x]) → body.wpIn (Fence.wide.inRound l) 0 P (postS w.heap.size Kp I Ix (pre ++ [x]) W) a' W)
    (hdone : ∀ (D : Nat) (xs : List α) (W : World), w.heap.size ≤ D → S xs → I xs W → W.heap[D]? = some (.deferred (some [])) → Q .normal { a with defers := { target := .collected D, args := #[] } :: a.defers } W)
    (hstop : ∀ (D : Nat) (c : Code) (pre : List α) (W : World), w.heap.size ≤ D → Sp pre → Ix c pre W → W.heap[D]? = some (.deferred (some [])) → c.wpIn Fence.wide n P Q { a with defers := { target := .collected D, args := #[] } :: a.defers } W) :
    (Code.rangeFunc g ps asg body).wpIn Fence.wide n P Q a w := by
  refine wpIn_rangeFunc ?_
  intro fn hfn
  obtain ⟨rc, hrc⟩ : ∃ rc : LoopState → Option Code → Loop, rc = fun st j => { state := st, pending := j, fn, tmps := a.tmps, params := ps, assign := asg, body, defers := w.heap.size } := ⟨_, rfl⟩
  obtain ⟨D, hD⟩ : ∃ D, w.heap.size = D := ⟨_, rfl⟩
  obtain ⟨V, hV⟩ : ∃ V, (w.alloc (.deferred (some []))).alloc (.loop (rc .ready none)) = V := ⟨_, rfl⟩
  have e1 : (w.alloc (.deferred (some []))).heap.size = D + 1 := by rw [World.size_alloc, hD]
  have hVs : V.heap.size = D + 2 := by rw [← hV, World.size_alloc, e1]
  have hVl : V.heap[D + 1]? = some (.loop (rc .ready none)) := by
    have h := World.alloc_heap_new (w.alloc (.deferred (some []))) (.loop (rc .ready none))
    rw [e1, hV] at h; exact h
  have hVd : V.heap[D]? = some (.deferred (some [])) := by
    have h := World.alloc_heap_new w (.deferred (some []))
    rw [hD] at h
    rw [← hV]
    exact (Below.heap_alloc _ _ D (by omega)).trans h
  have hVI : I [] V := by
    rw [← hV]
    exact hI.grown (hI.grown h0 (World.grownBy_alloc _ _ none)) (World.grownBy_alloc _ _ none)
  have hVb : Below w0.heap.size w0 V := by
    rw [← hV]; exact bal (bal hb0 _) _
  -- the two blocks of the loop stand whatever the iterator turns
  have two : ∀ {X Y : World} {row : Option Nat} {k : Nat} {o : Obj}, X.grownBy Y row → (∀ r, row = some r → (own r ∨ V.heap.size ≤ r) ∧ ∃ o, X.heap[r]? = some o ∧ Soft o) → D ≤ k → k < D + 2 → X.heap[k]? = some o → Y.heap[k]? = some o := by
    intro X Y row k o hgr hr hk1 hk2 hk
    refine (hgr.block k (Array.getElem?_eq_some_iff.1 hk).1 (fun e => ?_)).trans hk
    rcases (hr k e.symm).1 with h | h
    · have := hown k h; omega
    · omega
  have less : ∀ {X : World} {row : Option Nat}, (∀ r, row = some r → (own r ∨ V.heap.size ≤ r) ∧ ∃ o, X.heap[r]? = some o ∧ Soft o) → ∀ r, row = some r → (own r ∨ w.heap.size ≤ r) ∧ ∃ o, X.heap[r]? = some o ∧ Soft o := by
    intro X row hr r e
    obtain ⟨h1, h2⟩ := hr r e
    exact ⟨h1.imp id (fun h => by omega), h2⟩
  refine ⟨D + 1, [{ target := .collected D, args := #[] }], V, { target := .fn (.func gf) lb, args := #[.func (.yield (D + 1)) #[] #[]] }, V, gf, #[.func (.yield (D + 1)) #[] #[]] ++ lb, V, ?_, ?_, fun _ _ => trivial, ?_, (fun h => (by cases h)), ?_⟩
  · have h := run_enterLoop_outer (P := P) (w := w) fn a.tmps ps asg body
    rw [hD] at h
    rw [← hV, hrc, hD]
    exact h
  · simp only [resolve, hg]
    simp [go_sem]
  · simp [invoke, go_sem, eg]
  · refine callsIn_wide.2 (callsIn_wide.1 ((hseq (D + 1)
      (fun pre X => I pre X ∧ X.heap[D + 1]? = some (.loop (rc .ready none)) ∧ X.heap[D]? = some (.deferred (some [])))
      (fun pre X => ∃ c, Ix c pre X ∧ X.heap[D + 1]? = some (.loop (rc .done (some c))) ∧ X.heap[D]? = some (.deferred (some [])))
      V hVb
      (fun s X Y row hs hgr hr => ⟨hI s X Y row hs.1 hgr (less hr), two hgr hr (by omega) (by omega) hs.2.1, two hgr hr (by omega) (by omega) hs.2.2⟩)
      (fun s X Y row hs hgr hr => by
        obtain ⟨c, h1, h2, h3⟩ := hs
        exact ⟨c, hIx c s X Y row h1 hgr (less hr), two hgr hr (by omega) (by omega) h2, two hgr hr (by omega) (by omega) h3⟩)
      ?round ⟨hVI, hVl, hVd⟩).mono ?behind))
    case behind =>
      rintro e X ⟨⟨v, rfl⟩, (⟨xs, hS, h1, h2, h3⟩ | ⟨pre, hSp, c, h1, h2, h3⟩)⟩
      · have h4 : (Instr.endLoop (D + 1)).run P X = .ok none (X.putObj (D + 1) (.loop (rc .exhausted none))) := by
          have h := run_endLoop (P := P) h2 (by rw [hrc]; simp)
          rw [hrc] at h ⊢
          exact h
        exact ⟨none, _, h4, hdone D xs _ (by omega) hS (hI.put _ h1 (.inr (by omega)) h2 rfl) ((World.putObj_heap_other (by omega)).trans h3)⟩
      · have h4 : (Instr.endLoop (D + 1)).run P X = .ok (some c) (X.putObj (D + 1) (.loop (rc .exhausted (some c)))) := by
          have h := run_endLoop (P := P) h2 (by rw [hrc]; simp)
          rw [hrc] at h ⊢
          exact h
        exact ⟨some c, _, h4, hstop D c pre _ (by omega) hSp ((hIx c).put _ h1 (.inr (by omega)) h2 rfl) ((World.putObj_heap_other (by omega)).trans h3)⟩
    case round =>
      rintro pre x X ⟨h1, h2, h3⟩ hsp
      have hy := run_yield (P := P) (args := encs x) h2 (by rw [hrc]; exact hps x)
      rw [hrc] at hy
      refine ⟨fn, _, asg, body, hy, roundIn_of_wpIn hfn (hassign _ pre x X _ h1 ?_)⟩
      clear hy h1
      intro a' Y k1 k2 i1 ax
      have g2 := k1.same _ _ (by omega) h2 rfl
      have g3 := k1.same _ _ (by omega) h3 rfl
      clear h2 h3
      obtain ⟨b2, hb2⟩ : ∃ b2, (Obj.loop { rc .ready none with state := .busy }) = b2 := ⟨_, rfl⟩
      obtain ⟨Z, hZ⟩ : ∃ Z, Y.putObj (D + 1) b2 = Z := ⟨_, rfl⟩
      have hbeg := run_beginRound (P := P) g2 (by rw [hrc])
      rw [hb2, hZ] at hbeg
      refine ⟨Z, hbeg, ?_⟩
      have hl := (Array.getElem?_eq_some_iff.1 g2).1
      have z2 : Z.heap[D + 1]? = some b2 := by rw [← hZ]; exact World.putObj_heap_same hl
      have z3 : Z.heap[D]? = some (.deferred (some [])) := by rw [← hZ]; exact (World.putObj_heap_other (by omega)).trans g3
      have zK : Kp Y Z := by
        have := hKb Y _ b2 (by rw [hD]; exact g2) rfl
        rw [hD, hZ] at this; exact this
      have zI : I pre Z := by rw [← hZ]; exact hI.put _ i1 (.inr (by omega)) g2 rfl
      have zA : Ax x a' Z := by
        have := hAx x a' Y _ b2 ax (by rw [hD]; exact g2) rfl
        rw [hD, hZ] at this; exact this
      have hKb' : ∀ (U : World) (o' : Obj), U.heap[D + 1]? = some b2 → Kp U (U.putObj (D + 1) o') := fun U o' hU => by
        have := hKb U _ o' (by rw [hD]; exact hU) (by rw [← hb2]; rfl)
        rw [hD] at this; exact this
      have fin : ∀ (j : Option Code) (U : World), KeepsFrom w.heap.size Z U ∧ Kp Z U →
          (Instr.endRound (D + 1) j).run P U = .ok (.bool j.isNone) (U.putObj (D + 1) (.loop (rc (if j.isNone then .ready else .done) j))) ∧ U.heap[D + 1]? = some b2 ∧
          (U.putObj (D + 1) (.loop (rc (if j.isNone then .ready else .done) j))).heap[D + 1]? = some (.loop (rc (if j.isNone then .ready else .done) j)) ∧
          (U.putObj (D + 1) (.loop (rc (if j.isNone then .ready else .done) j))).heap[D]? = some (.deferred (some [])) ∧ Kp X (U.putObj (D + 1) (.loop (rc (if j.isNone then .ready else .done) j))) := by
        rintro j U ⟨u1, u2⟩
        have u3 := u1.same _ _ (by omega) z2 (by rw [← hb2]; rfl)
        have u4 := u1.same _ _ (by omega) z3 rfl
        have u5 : U.heap[D + 1]? = some (.loop { rc .ready none with state := .busy }) := by rw [hb2]; exact u3
        have h := run_endRound (P := P) j u5
        refine ⟨?_, u3, World.putObj_heap_same (Array.getElem?_eq_some_iff.1 u3).1, (World.putObj_heap_other (by omega)).trans u4, hKt k2 (hKt zK (hKt u2 (hKb' _ _ u3)))⟩
        rw [hrc] at h ⊢
        exact h
      have ho : b2.isCells = false := by rw [← hb2]; rfl
      refine wpIn_mono (hbody _ pre x a' Z zI zA hsp) ?_
      rintro e a3 U hp
      cases e with
      | normal =>
        obtain ⟨f1, f2, f3, f4, f5⟩ := fin none U hp.1
        exact ⟨_, _, f1, .inl ⟨rfl, hI.put _ hp.2 (.inr (by omega)) f2 ho, f3, f4⟩, f5⟩
      | ret =>
        obtain ⟨f1, f2, f3, f4, f5⟩ := fin (some .ret) U hp.1
        exact ⟨_, _, f1, .inr ⟨rfl, .ret, (hIx _).put _ hp.2 (.inr (by omega)) f2 ho, f3, f4⟩, f5⟩
      | exit k =>
        obtain ⟨f1, f2, f3, f4, f5⟩ := fin (some (.exit k)) U hp.1
        exact ⟨_, _, f1, .inr ⟨rfl, .exit k, (hIx _).put _ hp.2 (.inr (by omega)) f2 ho, f3, f4⟩, f5⟩
      | goto k =>
        obtain ⟨f1, f2, f3, f4, f5⟩ := fin (some (.goto k)) U hp.1
        exact ⟨_, _, f1, .inr ⟨rfl, .goto k, (hIx _).put _ hp.2 (.inr (by omega)) f2 ho, f3, f4⟩, f5⟩
      | panic k => exact hp.elim
      | outgrown => exact hp.elim
end Go.Proofs.YtimbiobonigdmaaGreatDoor
/- The program: the two iterators, from the last element of a slice to its first. -/
set_option linter.unusedVariables false
set_option linter.unusedSimpArgs false
namespace Go.Proofs.YtimbiobonigdmaaGreatDoor
open Go Go.RowKit Go.Shelf L8 L10 L14
attribute [local go_sem] Oper.semAt_some

/-- One block stays as it was. -/
def KpQ (q : Nat) (W W' : World) : Prop := W'.heap[q]? = W.heap[q]?
theorem kpQ_t {q : Nat} {X Y Z : World} (h : KpQ q X Y) (k : KpQ q Y Z) : KpQ q X Z := Eq.trans k h
def dn (n : Nat) : List Nat := (List.range n).reverse
theorem dn_succ (n : Nat) : dn (n + 1) = n :: dn n := by unfold dn; rw [List.range_succ, List.reverse_append]; rfl
theorem dn_len (n : Nat) : (dn n).length = n := by unfold dn; simp
theorem dn_take {n z : Nat} (h : z < n) : (dn n).take (n - (z + 1)) ++ [z] = (dn n).take (n - z) := by
  have e : n - z = (n - (z + 1)) + 1 := by omega
  rw [e, List.take_succ_eq_append_getElem (by rw [dn_len]; omega)]
  congr 2
  unfold dn
  rw [List.getElem_reverse, List.getElem_range]
  simp
  omega
def encO (A : Option Addr) (i : Nat) : Array Value := #[.pointer (some ((A.getD ⟨0, 0, none⟩).add (i * 16)))]
/-- What the iterator has handed out. -/
def DnAt (J : List Nat → World → Prop) (q : Nat) (t : TypeId) (v : Value) (n r : Nat) (W : World) : Prop := J ((dn n).take (n - r)) W ∧ Boxed W q t v
set_option maxRecDepth 100000 in
set_option maxHeartbeats 4000000 in
theorem out_items {q n c : Nat} {A : Option Addr} {w0 : World} (hA : 0 < n → ∃ ad, A = some ad) (hc : n ≤ c) (hm : c ≤ maxLen) (hB : Boxed w0 q 28 (.slice A n c)) :
    SeqS Tryz.prog (fun _ => False) 92 #[.pointer (some ⟨q, 0, none⟩)] (encO A) (KpQ q) (fun ys => ys = dn n) (fun pre => pre <+: dn n) w0 := by
  intro l J Jx W hW hJ hJx hY h0
  have bW : Boxed W q 28 (.slice A n c) := (hW.block q hB.lt).trans hB
  have HJ := Lib.hid hJ
  have HY := Lib.hid hY
  have H0 := Lib.hid (show DnAt J q 28 (.slice A n c) n n W from ⟨by rw [Nat.sub_self, List.take_zero]; exact h0, bW⟩)
  have c1 := bW.cell
  have hA := Lib.hid hA
  have hmx : n ≤ maxLen := by omega
  unfold maxLen at hmx
  have hn0 : (0 : Int) ≤ (n : Int) := by omega
  clear hJ hY h0 bW hW hB hJx hm
  refine callsIn_of_wp Tryz.func92 rfl trivial ?_ rfl
  simp only [Tryz.ntmps92, List.size_toArray, List.length_cons, List.length_nil, Nat.reduceAdd, Nat.reduceSub, Array.replicate_succ, Array.replicate_zero, List.push_toArray, List.append_toArray, List.nil_append, List.cons_append]
  gi_wp2
  clear c1
  gi_loopw [3] (fun i wr => ∃ r : Nat, r ≤ n ∧ i = .int .i64 ((r : Int) - 1) ∧ Hid (DnAt J q 28 (.slice A n c) n r wr)) (fun i _ => (intOf i + 1).toNat)
  case atStart => exact ⟨n, Nat.le_refl _, rfl, H0⟩
  case round =>
    obtain ⟨r, hr, rfl, H⟩ := hrel
    by_cases h0 : r = 0
    · subst h0
      have HP := Lib.hid (show J (dn n) wr from by
        have := H.out.1
        rwa [Nat.sub_zero, List.take_of_length_le (by rw [dn_len]; exact Nat.le_refl _)] at this)
      gi_wp2
      go_end0
      exact ⟨⟨_, rfl⟩, .inl ⟨_, rfl, HP.out⟩⟩
    · obtain ⟨z, rfl⟩ : ∃ z, r = z + 1 := ⟨r - 1, by omega⟩
      have hz : ((z + 1 : Nat) : Int) - 1 = (z : Int) := by omega
      rw [hz]
      clear h0 hz
      have hz0 : (0 : Int) ≤ (z : Int) := by omega
      have hzn : (z : Int) < (n : Int) := by omega
      obtain ⟨ad, rfl⟩ := hA.out (by omega)
      have hpre := dn_take (n := n) (z := z) (by omega)
      obtain ⟨fn, tmps, asg, body, hy, hR⟩ := HY.out ((dn n).take (n - (z + 1))) z _ H.out.1 (by rw [hpre]; exact List.take_prefix _ _)
      have HP := Lib.hid hpre
      have c1 := H.out.2.cell
      have HB := Lib.hid H.out.2
      dsimp only [encO, Option.getD] at hy
      clear hpre
      gi_wp2
      refine ⟨rfl, hR.mono ?_⟩
      rintro e V3 ⟨(⟨rfl, h3⟩ | ⟨rfl, h3⟩), hk⟩
      · have HK := Lib.hid (show DnAt J q 28 (.slice (some ad) n c) n z V3 from ⟨by rw [← HP.out]; exact h3, Eq.trans hk HB.out⟩)
        clear h3 hk hR hy c1
        gi_wp2
        go_roundw
        case rel => exact ⟨z, by omega, rfl, HK⟩
        case measure => simp [intOf]
      · clear hk hR hy c1
        gi_wp2
        refine bodyPost_ret (results_none rfl _ _ _) rfl ?_
        exact ⟨⟨_, rfl⟩, .inr ⟨_, by rw [HP.out]; exact List.take_prefix _ _, h3⟩⟩
abbrev Nd := Addr × Sp
def nd0 : Nd := (⟨0, 0, none⟩, sp0)
/-- A row of what is needed, readable. -/
structure NdR (w : World) (A : Option Addr) (n : Nat) (l : List Nd) : Prop where
  len : l.length = n
  rd : ∀ j, j < n → ∃ ad, A = some ad ∧ w.cell? (ad.add (j * 2)) = some (.pointer (some (l.getD j nd0).1)) ∧ w.cell? ⟨(ad.add (j * 2)).block, (ad.add (j * 2)).off + 1, none⟩ = some (.bool (vald (l.getD j nd0).2))
theorem NdR.km {w w' : World} {A : Option Addr} {n : Nat} {l : List Nd} (h : NdR w A n l) (k : Km w w') : NdR w' A n l :=
  ⟨h.len, fun j hj => by obtain ⟨ad, e, h1, h2⟩ := h.rd j hj; exact ⟨ad, e, k _ _ h1, k _ _ h2⟩⟩
theorem NdR.keep {w w' : World} {A : Option Addr} {n : Nat} {l : List Nd} (h : NdR w A n l) (b : Below w.heap.size w w') : NdR w' A n l := h.km (.below b)
theorem NdR.kp {w w' : World} {A : Option Addr} {n : Nat} {l : List Nd} (h : NdR w A n l) (b : ∀ ad, A = some ad → w'.heap[ad.block]? = w.heap[ad.block]?) : NdR w' A n l :=
  ⟨h.len, fun j hj => by
    obtain ⟨ad, e, h1, h2⟩ := h.rd j hj
    refine ⟨ad, e, ?_, ?_⟩
    · rw [← h1]; exact World.cell?_of_block (by rw [add_block]; exact b ad e)
    · rw [← h2]; exact World.cell?_of_block (by show w'.heap[(ad.add (j * 2)).block]? = _; rw [add_block]; exact b ad e)⟩
def encB (l : List Nd) (i : Nat) : Array Value := #[.int .i64 (i : Int), .agg #[.pointer (some (l.getD i nd0).1), .bool (vald (l.getD i nd0).2)]]
/-- The box and the row stay as they were. -/
def KpR (q : Nat) (A : Option Addr) (W W' : World) : Prop := W'.heap[q]? = W.heap[q]? ∧ ∀ ad, A = some ad → W'.heap[ad.block]? = W.heap[ad.block]?
theorem kpR_t {q : Nat} {A : Option Addr} {X Y Z : World} (h : KpR q A X Y) (k : KpR q A Y Z) : KpR q A X Z := ⟨Eq.trans k.1 h.1, fun ad e => Eq.trans (k.2 ad e) (h.2 ad e)⟩
def DnB (J : List Nat → World → Prop) (q : Nat) (v : Value) (n r : Nat) (A : Option Addr) (l : List Nd) (W : World) : Prop := J ((dn n).take (n - r)) W ∧ Boxed W q 76 v ∧ NdR W A n l
set_option maxRecDepth 100000 in
set_option maxHeartbeats 4000000 in
theorem back_items {q n c : Nat} {A : Option Addr} {l : List Nd} {w0 : World} (hN : NdR w0 A n l) (hc : n ≤ c) (hm : c ≤ maxLen) (hB : Boxed w0 q 76 (.slice A n c)) :
    SeqS Tryz.prog (fun _ => False) 70 #[.pointer (some ⟨q, 0, none⟩)] (encB l) (KpR q A) (fun ys => ys = dn n) (fun pre => pre <+: dn n) w0 := by
  intro l1 J Jx W hW hJ hJx hY h0
  have bW : Boxed W q 76 (.slice A n c) := (hW.block q hB.lt).trans hB
  have HJ := Lib.hid hJ
  have HY := Lib.hid hY
  have H0 := Lib.hid (show DnB J q (.slice A n c) n n A l W from ⟨by rw [Nat.sub_self, List.take_zero]; exact h0, bW, hN.keep hW⟩)
  have c1 := bW.cell
  have hmx : n ≤ maxLen := by omega
  unfold maxLen at hmx
  have hn0 : (0 : Int) ≤ (n : Int) := by omega
  clear hJ hY h0 bW hW hB hJx hm hN
  refine callsIn_of_wp Tryz.func70 rfl trivial ?_ rfl
  simp only [Tryz.ntmps70, List.size_toArray, List.length_cons, List.length_nil, Nat.reduceAdd, Nat.reduceSub, Array.replicate_succ, Array.replicate_zero, List.push_toArray, List.append_toArray, List.nil_append, List.cons_append]
  gi_wp2
  clear c1
  gi_loopw [3] (fun i wr => ∃ r : Nat, r ≤ n ∧ i = .int .i64 ((r : Int) - 1) ∧ Hid (DnB J q (.slice A n c) n r A l wr)) (fun i _ => (intOf i + 1).toNat)
  case atStart => exact ⟨n, Nat.le_refl _, rfl, H0⟩
  case round =>
    obtain ⟨r, hr, rfl, H⟩ := hrel
    by_cases h0 : r = 0
    · subst h0
      have HP := Lib.hid (show J (dn n) wr from by
        have := H.out.1
        rwa [Nat.sub_zero, List.take_of_length_le (by rw [dn_len]; exact Nat.le_refl _)] at this)
      gi_wp2
      go_end0
      exact ⟨⟨_, rfl⟩, .inl ⟨_, rfl, HP.out⟩⟩
    · obtain ⟨z, rfl⟩ : ∃ z, r = z + 1 := ⟨r - 1, by omega⟩
      have hz : ((z + 1 : Nat) : Int) - 1 = (z : Int) := by omega
      rw [hz]
      clear h0 hz
      have hz0 : (0 : Int) ≤ (z : Int) := by omega
      have hzn : (z : Int) < (n : Int) := by omega
      obtain ⟨ad, rfl, x0, x1⟩ := H.out.2.2.rd z (by omega)
      have hpre := dn_take (n := n) (z := z) (by omega)
      obtain ⟨fn, tmps, asg, body, hy, hR⟩ := HY.out ((dn n).take (n - (z + 1))) z _ H.out.1 (by rw [hpre]; exact List.take_prefix _ _)
      have HP := Lib.hid hpre
      have c1 := H.out.2.1.cell
      have HB := Lib.hid H.out.2
      dsimp only [encB] at hy
      generalize (l.getD z nd0).1 = p0 at *
      generalize vald (l.getD z nd0).2 = v0 at *
      clear hpre
      gi_wp2
      refine ⟨rfl, hR.mono ?_⟩
      rintro e V3 ⟨(⟨rfl, h3⟩ | ⟨rfl, h3⟩), hk⟩
      · have HK := Lib.hid (show DnB J q (.slice (some ad) n c) n z (some ad) l V3 from ⟨by rw [← HP.out]; exact h3, Eq.trans hk.1 HB.out.1, HB.out.2.kp hk.2⟩)
        clear h3 hk hR hy c1 x0 x1
        gi_wp2
        go_roundw
        case rel => exact ⟨z, by omega, rfl, HK⟩
        case measure => simp [intOf]
      · clear hk hR hy c1
        gi_wp2
        refine bodyPost_ret (results_none rfl _ _ _) rfl ?_
        exact ⟨⟨_, rfl⟩, .inr ⟨_, by rw [HP.out]; exact List.take_prefix _ _, h3⟩⟩
end Go.Proofs.YtimbiobonigdmaaGreatDoor
/- What is needed, found one specification after the other. Plain but for the pointers. -/
set_option linter.unusedVariables false
set_option linter.unusedSimpArgs false
namespace Go.Proofs.YtimbiobonigdmaaGreatDoor
open Go Go.RowKit L8 L10 L14

def stN (s : (Bs → Bool) × List Nd) (y : Nd) : (Bs → Bool) × List Nd := if hitS s.1 y.2 = true then (updS s.1 y.2, s.2 ++ [y]) else s
theorem st_yes {M : Bs → Bool} {F : List Nd} {y : Nd} (h : hitS M y.2 = true) : stN (M, F) y = (updS M y.2, F ++ [y]) := if_pos h
theorem st_no {M : Bs → Bool} {F : List Nd} {y : Nd} (h : ¬ hitS M y.2 = true) : stN (M, F) y = (M, F) := if_neg h
def runN (M : Bs → Bool) (l : List Nd) : (Bs → Bool) × List Nd := l.foldl stN (M, [])
theorem runN_snoc (M : Bs → Bool) (l : List Nd) (y : Nd) : runN M (l ++ [y]) = stN (runN M l) y := by unfold runN; rw [List.foldl_append]; rfl
theorem run_from (l : List Nd) : ∀ (M : Bs → Bool) (F : List Nd), l.foldl stN (M, F) = ((runN M l).1, F ++ (runN M l).2) := by
  induction l with
  | nil => intro M F; simp [runN]
  | cons y r ih =>
    intro M F
    rw [List.foldl_cons]
    have e : runN M (y :: r) = r.foldl stN (stN (M, []) y) := rfl
    rw [e]
    by_cases h : hitS M y.2 = true
    · rw [st_yes h, st_yes h]
      rw [ih, ih (updS M y.2) ([] ++ [y])]
      simp
    · rw [st_no h, st_no h]
      rw [ih, ih M []]
      simp
theorem need_run : ∀ (l : List Nd) (M : Bs → Bool) (r : List Sp), need M (l.map (·.2) ++ r) = (runN M l).2.map (·.2) ++ need (runN M l).1 r
  | [], _, _ => rfl
  | y :: l, M, r => by
    have e : runN M (y :: l) = l.foldl stN (stN (M, []) y) := rfl
    rw [List.map_cons, List.cons_append, need, e]
    by_cases h : hitS M y.2 = true
    · rw [if_pos h, st_yes h, need_run l, run_from l (updS M y.2) ([] ++ [y])]
      simp
    · rw [if_neg h, st_no h, need_run l, run_from l M []]
      simp
/-- All of them have been passed, or nothing is missing any more. -/
theorem need_all (l : List Nd) (M : Bs → Bool) : need M (l.map (·.2)) = (runN M l).2.map (·.2) := by
  have := need_run l M []
  rw [List.append_nil] at this
  rw [this, need, List.append_nil]
theorem need_stop {l m : List Nd} (h : l <+: m) (M : Bs → Bool) (hM : ∀ s, (runN M l).1 s = false) : need M (m.map (·.2)) = (runN M l).2.map (·.2) := by
  obtain ⟨r, rfl⟩ := h
  rw [List.map_append, need_run, need_none _ _ hM, List.append_nil]
/-- What the iterator hands out, as what it points to. -/
def ndOf (A : Option Addr) (l : List Sp) (i : Nat) : Nd := ((A.getD ⟨0, 0, none⟩).add (i * 16), l.getD i sp0)
theorem rev_dn (A : Option Addr) (l : List Sp) : ((dn l.length).map (ndOf A l)).map (·.2) = l.reverse := by
  unfold dn
  rw [List.map_reverse, List.map_reverse, List.map_map]
  congr 1
  apply List.ext_getElem?
  intro i
  by_cases h : i < l.length
  · simp [h, ndOf]
  · simp [h]
theorem run_sub (M : Bs → Bool) : ∀ (l : List Nd), ∀ y ∈ (runN M l).2, y ∈ l := by
  have key : ∀ (l : List Nd) (M : Bs → Bool) (F : List Nd), ∀ y ∈ (l.foldl stN (M, F)).2, y ∈ F ∨ y ∈ l := by
    intro l
    induction l with
    | nil => intro M F y h; exact .inl h
    | cons z r ih =>
      intro M F y h
      rw [List.foldl_cons] at h
      by_cases hh : hitS M z.2 = true
      · rw [st_yes hh] at h
        rcases ih _ _ y h with h | h
        · rcases List.mem_append.1 h with h | h
          · exact .inl h
          · exact .inr (by rw [List.mem_singleton.1 h]; exact List.mem_cons_self ..)
        · exact .inr (List.mem_cons_of_mem _ h)
      · rw [st_no hh] at h
        rcases ih _ _ y h with h | h
        · exact .inl h
        · exact .inr (List.mem_cons_of_mem _ h)
  intro l y h
  rcases key l M [] y h with h | h
  · cases h
  · exact h
theorem sub_same {M : Bs → Bool} {ns : List Bs} (h : ns.any M = false) : subM M ns = M := by
  funext s
  unfold subM
  by_cases hs : s ∈ ns
  · have : M s = false := by
      cases hM : M s with
      | false => rfl
      | true => rw [List.any_eq_true.2 ⟨s, hs, hM⟩] at h; cases h
    rw [this]; rfl
  · rw [decide_eq_false hs]; simp
theorem upd_yes {M : Bs → Bool} {x : Sp} (h : vald x = true) : updS M x = addM (subM M x.ns) (nmE x.e) := by
  funext s; unfold updS addM subM; rw [h]; simp
theorem upd_no {M : Bs → Bool} {x : Sp} (h : vald x = false) : updS M x = subM M x.ns := by
  funext s; unfold updS subM; rw [h]; simp
theorem run_len (M : Bs → Bool) (l : List Nd) : (runN M l).2.length ≤ l.length := by
  have key : ∀ (l : List Nd) (M : Bs → Bool) (F : List Nd), (l.foldl stN (M, F)).2.length ≤ F.length + l.length := by
    intro l
    induction l with
    | nil => intro M F; exact Nat.le_refl _
    | cons z r ih =>
      intro M F
      rw [List.foldl_cons, List.length_cons]
      by_cases hh : hitS M z.2 = true
      · rw [st_yes hh]
        have := ih (updS M z.2) (F ++ [z])
        rw [List.length_append] at this
        simp only [List.length_cons, List.length_nil] at this
        omega
      · rw [st_no hh]
        have := ih M F
        omega
  have := key l M []
  simp only [List.length_nil, Nat.zero_add] at this
  exact this
end Go.Proofs.YtimbiobonigdmaaGreatDoor
/- A region that draws its order, within a round of a loop over an iterator: it runs as it does outside. -/
set_option linter.unusedVariables false
set_option linter.unusedSimpArgs false
namespace Go.Proofs.YtimbiobonigdmaaGreatDoor
open Go Go.RowKit

theorem oper_round {n : Nat} {P : Program} {o : Go.Oper} (l : Nat) (hd : ∀ c, o.op ≠ Op.defer c) {a : Act} {w : World} {K : Act → World → Prop} {Q : Exit → Act → World → Prop} (h : o.wpIn Fence.wide n P a w K Q) : o.wpIn (Fence.wide.inRound l) n P a w K Q := by
  unfold Oper.wpIn at h ⊢
  refine ⟨fun _ _ => trivial, ?_⟩
  have h2 := h.2
  rw [Oper.semAt_eq _ _ _ hd] at h2 ⊢
  exact h2
theorem any_round {n : Nat} {P : Program} {md : Region.Mode} {ops : Array Go.Oper} {Q : Exit → Act → World → Prop} (l : Nat) (hd : ∀ (i : Nat) (o : Go.Oper), ops[i]? = some o → ∀ c, o.op ≠ Op.defer c) : ∀ (fuel : Nat) (listed : Array Bool) (a : Act) (w : World),
    wpAnyIn Fence.wide n P md ops Q fuel listed a w → wpAnyIn (Fence.wide.inRound l) n P md ops Q fuel listed a w := by
  intro fuel
  induction fuel with
  | zero => intro listed a w h; exact h
  | succ fuel ih =>
    intro listed a w h
    refine ⟨h.1, fun i hi => ?_⟩
    have h2 := wpOpIn_mono (fun a w => ih _ a w) (h.2 i hi)
    unfold wpOpIn at h2 ⊢
    split
    · rename_i ho; simpa [ho] using h2
    · rename_i o ho
      simp only [ho] at h2
      split
      · rename_i hw; simp only [hw, if_true] at h2; exact oper_round l (hd i o ho) h2
      · rename_i hw; simp only [hw] at h2; exact ⟨fun _ _ => trivial, h2.2⟩
def noDefer (o : Go.Oper) : Bool := match o.op with | .defer _ => false | _ => true
theorem noDefer_all {ops : Array Go.Oper} (h : ops.all noDefer = true) : ∀ (i : Nat) (o : Go.Oper), ops[i]? = some o → ∀ c, o.op ≠ Op.defer c := by
  intro i o ho c e
  have hm := Array.mem_of_getElem? ho
  have := (Array.all_eq_true_iff_forall_mem.1 h) o hm
  unfold noDefer at this
  rw [e] at this
  cases this
theorem region_round {n : Nat} {P : Program} {ops : Array Go.Oper} {id : Nat} {Q : Exit → Act → World → Prop} {a : Act} {w : World} (l : Nat) (hm : P.follows .mixedOrders = true) (hd : ops.all noDefer = true)
    (h : wpAnyIn Fence.wide n P .any ops Q ops.size (Array.replicate ops.size false) a { w with drawn := w.drawn + 1 }) : (Code.region id ops true).wpIn (Fence.wide.inRound l) n P Q a w :=
  wpIn_region_any hm (any_round l (noDefer_all hd) _ _ _ _ h)
/-- The same, from what has been laid as a region outside a round. -/
theorem code_round {n : Nat} {P : Program} {ops : Array Go.Oper} {Q : Exit → Act → World → Prop} {fuel : Nat} {listed : Array Bool} {a : Act} {w : World} {md : Region.Mode} (l : Nat) (hd : ops.all noDefer = true)
    (h : wpAnyIn Fence.wide n P md ops Q fuel listed a w) : wpAnyIn (Fence.wide.inRound l) n P md ops Q fuel listed a w := any_round l (noDefer_all hd) _ _ _ _ h
/-- All operations of a list, as far as they may come up. -/
def AllB (F : Fence) (n : Nat) (P : Program) (md : Region.Mode) (ops : Array Go.Oper) (Q : Exit → Act → World → Prop) (fuel : Nat) (listed : Array Bool) (a : Act) (w : World) (rs : List Nat) : Prop :=
  ∀ i ∈ rs, (Region.ready md ops listed).contains i = true → wpOpIn F n P ops Q i (wpAnyIn F n P md ops Q fuel (listed.setIfInBounds i true)) a w
section
variable {F : Fence} {n : Nat} {P : Program} {md : Region.Mode} {ops : Array Go.Oper} {Q : Exit → Act → World → Prop} {fuel : Nat} {listed : Array Bool} {a : Act} {w : World}
theorem allB_nil : AllB F n P md ops Q fuel listed a w [] := fun _ h => (by cases h)
theorem allB_no {i : Nat} {rs : List Nat} (h : (Region.ready md ops listed).contains i = false) (hs : AllB F n P md ops Q fuel listed a w rs) : AllB F n P md ops Q fuel listed a w (i :: rs) := fun j hj hc => by
  rcases List.mem_cons.1 hj with rfl | hj
  · rw [h] at hc; cases hc
  · exact hs j hj hc
theorem allB_yes {i : Nat} {o : Go.Oper} {rs : List Nat} (ho : ops[i]? = some o)
    (h : ∀ K' : Act → World → Prop, (∀ a w, wpAnyIn F n P md ops Q fuel (listed.setIfInBounds i true) a w → K' a w) → if Region.wanted o (yielded ops a.tmps) = true then Go.Oper.wpIn F n P o a w K' Q else (∀ f, o.about P w a.eval = some f → F.fn f) ∧ K' (a.put o.dst undef) w)
    (hs : AllB F n P md ops Q fuel listed a w rs) : AllB F n P md ops Q fuel listed a w (i :: rs) := fun j hj hc => by
  rcases List.mem_cons.1 hj with rfl | hj
  · exact wpOpIn_step ho h
  · exact hs j hj hc
theorem step_all (rs : List Nat) (hr : List.range ops.size = rs) (hne : (Region.ready md ops listed).isEmpty = false) (h : AllB F n P md ops Q fuel listed a w rs) : wpAnyIn F n P md ops Q (fuel + 1) listed a w := by
  refine ⟨fun h0 => ?_, fun i hi => ?_⟩
  · rw [h0] at hne; cases hne
  · refine h i ?_ (by simpa using hi)
    obtain ⟨_, o, ho, _⟩ := mem_ready.1 hi
    rw [← hr, List.mem_range]
    exact (Array.getElem?_eq_some_iff.1 ho).1
end
end Go.Proofs.YtimbiobonigdmaaGreatDoor
/- The program: the specifications on which a value depends. -/
set_option linter.unusedVariables false
set_option linter.unusedSimpArgs false
namespace Go.Proofs.YtimbiobonigdmaaGreatDoor
open Go Go.RowKit Go.Shelf L8 L10 L14
attribute [local go_sem] Oper.semAt_some

theorem wpIn_scope {n : Nat} {P : Program} {Q : Exit → Act → World → Prop} {a : Act} {w : World} {c : Code} (h : c.wpIn Fence.wide n P (Exit.noGoto Q) a w) : (Code.scope c).wpIn Fence.wide n P Q a w :=
  wpIn_wide.2 (wp_scope_straight (wpIn_wide.1 h))
def ndC (y : Nd) : List Value := [.pointer (some y.1), .bool (vald y.2)]
def ndCs (l : List Nd) : List Value := l.flatMap ndC
theorem ndCs_app (a b : List Nd) : ndCs (a ++ b) = ndCs a ++ ndCs b := by simp [ndCs]
theorem ndCs_len (l : List Nd) : (ndCs l).length = l.length * 2 := by
  induction l with
  | nil => rfl
  | cons y r ih => show (ndC y ++ ndCs r).length = _; rw [List.length_append, ih]; simp [ndC]; omega
theorem ndCs_one (l : List Nd) : ∀ v ∈ ndCs l, v.oneCell' = true := by
  intro v hv
  simp only [ndCs, List.mem_flatMap, ndC] at hv
  obtain ⟨y, _, h⟩ := hv
  simp at h
  rcases h with rfl | rfl <;> rfl
theorem ndCs_at : ∀ {l : List Nd} {j i : Nat}, j < l.length → i < 2 → (ndCs l)[j * 2 + i]? = (ndC (l.getD j nd0))[i]?
  | y :: r, 0, i, _, hi => by
    show (ndC y ++ ndCs r)[0 * 2 + i]? = _
    rw [Nat.zero_mul, Nat.zero_add, List.getElem?_append_left (by simpa [ndC] using hi)]
    rfl
  | y :: r, j + 1, i, h, hi => by
    have ih := ndCs_at (l := r) (j := j) (by simpa using h) hi
    show (ndC y ++ ndCs r)[(j + 1) * 2 + i]? = _
    rw [List.getElem?_append_right (by simp [ndC]; omega), List.getD_cons_succ, ← ih]
    congr 1
    simp [ndC]
    omega
def OwnN (w : World) (B : Nat) (A : Option Addr) (n c : Nat) (l : List Nd) : Prop := w.ownsRow B 79 2 (.slice A n c) n (ndCs l)
theorem OwnN.len {w : World} {B n c : Nat} {A : Option Addr} {l : List Nd} (h : OwnN w B A n c l) : l.length = n := by
  have := h.1
  rw [ndCs_len] at this
  omega
theorem OwnN.ndR {w : World} {B n c : Nat} {A : Option Addr} {l : List Nd} (h : OwnN w B A n c l) : NdR w A n l := by
  have hl := h.len
  refine ⟨hl, fun j hj => ?_⟩
  rcases h.2 with ⟨hv, h0⟩ | ⟨g, cap, cur, hv, hB, hh, hnc, hm, hcs, hx⟩
  · omega
  · injection hv with h1 h2 h3
    subst h1
    have hc : ∀ i, i < 2 → ∀ v, (ndC (l.getD j nd0))[i]? = some v → w.cell? ((⟨g, 0, none⟩ : Addr).add (j * 2 + i)) = some v := fun i hi v hv => World.ownsRow.cells h rfl (j * 2 + i) v ((ndCs_at (by omega) hi).trans hv)
    have e : ∀ i, w.cell? ⟨((⟨g, 0, none⟩ : Addr).add (j * 2)).block, ((⟨g, 0, none⟩ : Addr).add (j * 2)).off + i, none⟩ = w.cell? ((⟨g, 0, none⟩ : Addr).add (j * 2 + i)) := fun i => by rw [add_plain, add_plain, ← Nat.add_assoc]
    exact ⟨_, rfl, hc 0 (by decide) _ rfl, (e 1).trans (hc 1 (by decide) _ rfl)⟩
theorem OwnN.nil (w : World) (B : Nat) : OwnN w B none 0 0 [] := World.ownsRow_nil w B _ 2
theorem OwnN.lt {w : World} {B n c : Nat} {A : Option Addr} {l : List Nd} (h : OwnN w B A n c l) : ∀ k, (Value.slice A n c).ownBlock = some k → B ≤ k ∧ k < w.heap.size := fun k e => World.ownsRow.lt h k e
theorem nd_info : (Tryz.prog.info? 79).map (fun i => (i.zero, i.size, i.bytes)) = some (some (.agg #[.pointer none, .bool false]), 2, 16) := by kernel_rfl
theorem own_succ {w : World} {B n : Nat} {v : Value} {xs : List Value} (h : w.ownsRow B 79 2 v (n + 1) xs) : ∃ g cap, v = .slice (some ⟨g, 0, none⟩) (n + 1) cap := by
  rcases h.2 with ⟨_, h0⟩ | ⟨g, cap, _, hv, _⟩
  · omega
  · exact ⟨g, cap, hv⟩
theorem nd_cells {w : World} {q : Nat} {y : Nd} (h : BoxS w q 79 #[.pointer (some y.1), .bool (vald y.2)]) : ∀ j u, (ndCs [y])[j]? = some u → w.cell? ((⟨q, 0, none⟩ : Addr).add j) = some u := fun j u hj => by
  rw [add_plain, Nat.zero_add, h.cell j, ← hj]
  show (ndC y).toArray[j]? = _
  rw [List.getElem?_toArray]
  rfl
/-- One more of what is needed, appended within a fence. -/
theorem appIn_nd {G : Fence} {m : Nat} {w : World} {ops : Array Go.Oper} {rest : List Go.Oper} {o : Go.Oper} {a : Act} {Q : Exit → Act → World → Prop} (hgd : o.guard = none) (s x : Operand)
    (ho : o.op = .call { callee := .builtin .append, args := #[s, x], argTypes := #[76, 76] }) (base k c : Nat) (A : Option Addr) (F : List Nd) (y : Nd) (q : Nat) (hs : a.eval s = .slice A k c) (hx : a.eval x = .slice (some ⟨q, 0, none⟩) 1 1)
    (hown : OwnN w base A k c F) (hc : BoxS w q 79 #[.pointer (some y.1), .bool (vald y.2)]) (h63 : k ≤ 1000000) (hbase : base ≤ w.heap.size)
    (h : ∀ A2 c2 w', OwnN w' base A2 (k + 1) c2 (F ++ [y]) → w.grownBy w' (Value.slice A k c).ownBlock → wpListIn G m Tryz.prog ops Q rest (a.put o.dst (.slice A2 (k + 1) c2)) w') : wpListIn G m Tryz.prog ops Q (o :: rest) a w := by
  obtain ⟨i0, hi0, hz0, hz1, hz2⟩ := info_parts nd_info
  refine wpListIn_append_own w hgd s x 76 ho base 79 i0 (.agg #[.pointer none, .bool false]) 2 16 Tryz.underlying76 hi0 hz0 hz1 hz2 rfl (by decide) (.slice A k c) k (ndCs F) hs hown ⟨q, 0, none⟩ 1 1 (ndCs [y]) hx (ndCs_len [y]) (nd_cells hc) (ndCs_one _) (by unfold maxLen; omega) (by omega) hbase ?_
  intro v' w9 hown' hgrow _
  obtain ⟨g', cap', rfl⟩ := own_succ hown'
  rw [← ndCs_app] at hown'
  exact h _ _ w9 hown' hgrow
theorem outwards_in (n : Nat) (A : Option Addr) (k c : Nat) (w : World) :
    CallsIn Fence.wide n Tryz.prog 72 #[.slice A k c] w fun e w' => e = .returned (.func (.func 92) #[] #[.pointer (some ⟨w.heap.size, 0, none⟩)]) ∧ w' = w.alloc (.cells #[.slice A k c] 28) := by
  refine callsIn_of_wp Tryz.func72 rfl trivial ?_ rfl
  simp only [Tryz.ntmps72, List.size_toArray, List.length_cons, List.length_nil, Nat.reduceAdd, Nat.reduceSub, Array.replicate_succ, Array.replicate_zero, List.push_toArray, List.append_toArray, List.nil_append, List.cons_append]
  gi_wp2
  go_ret
  exact ⟨rfl, rfl⟩
/-- What is known while the specifications are passed. -/
structure NfS (w X : World) (B : Nat) (M : Bs → Bool) (A : Option Addr) (n c : Nat) (F : List Nd) : Prop where
  bel : Below w.heap.size w X
  bF : Boxed X (w.heap.size + 1) 76 (.slice A n c)
  oF : OwnN X B A n c F
  bM : Boxed X (w.heap.size + 1 + 1 + 1) 99 (.map (some (w.heap.size + 1 + 1)))
  nm : NmR X (w.heap.size + 1 + 1) M
  sz : B ≤ X.heap.size
theorem NfS.keep {w X Y : World} {B n c : Nat} {M : Bs → Bool} {A : Option Addr} {F : List Nd} (h : NfS w X B M A n c F) (b : Below X.heap.size X Y) : NfS w Y B M A n c F :=
  ⟨blw h.bel b, h.bF.kept (g_of_below b) (by simp), own_keepB h.oF b, h.bM.kept (g_of_below b) (by simp), h.nm.below b, Nat.le_trans h.sz b.size⟩
theorem NfS.set {w X Y : World} {B n c : Nat} {M M' : Bs → Bool} {A : Option Addr} {F : List Nd} (h : NfS w X B M A n c F) (hB : w.heap.size + 4 ≤ B) (k : NmR Y (w.heap.size + 1 + 1) M') (g : X.grownBy Y (some (w.heap.size + 1 + 1))) : NfS w Y B M' A n c F := by
  refine ⟨h.bel.grown g h.bel.size (fun k e => by injection e with e; omega), h.bF.kept g (fun e => by injection e with e; omega), World.ownsRow.kept h.oF g ?_, h.bM.kept g (fun e => by injection e with e; omega), k, Nat.le_trans h.sz g.size⟩
  cases hA : (Value.slice A n c).ownBlock with
  | none => exact .inl rfl
  | some r =>
    have := (h.oF.lt r hA).1
    exact .inr (fun e => by injection e with e; omega)
/-- What a round leaves alone. -/
def Kb (w : World) (B : Nat) (V V' : World) : Prop := V.heap.size ≤ V'.heap.size ∧ ∀ k, k < V.heap.size → k ≠ w.heap.size + 1 → k ≠ w.heap.size + 1 + 1 → (k < B ∨ ∀ o, V.heap[k]? = some o → o.isCells = false) → V'.heap[k]? = V.heap[k]?
theorem Kb.refl (w : World) (B : Nat) (V : World) : Kb w B V V := ⟨Nat.le_refl _, fun _ _ _ _ _ => rfl⟩
theorem Kb.trans {w : World} {B : Nat} {X Y Z : World} (h : Kb w B X Y) (g : Kb w B Y Z) : Kb w B X Z :=
  ⟨Nat.le_trans h.1 g.1, fun k hk h1 h2 h3 => by
    have e := h.2 k hk h1 h2 h3
    exact (g.2 k (Nat.lt_of_lt_of_le hk h.1) h1 h2 (h3.imp id fun f o ho => f o (by rw [← e]; exact ho))).trans e⟩
theorem Kb.below {w : World} {B : Nat} {X Y : World} (b : Below X.heap.size X Y) : Kb w B X Y := ⟨b.size, fun k hk _ _ _ => b.block k hk⟩
theorem Kb.set {w : World} {B : Nat} {X Y : World} (g : X.grownBy Y (some (w.heap.size + 1 + 1))) : Kb w B X Y := ⟨g.size, fun k hk _ h2 _ => g.block k hk (fun e => by injection e with e; exact h2 e)⟩
theorem Kb.row {w : World} {B n c : Nat} {X Y : World} {A : Option Addr} {F : List Nd} (h : OwnN X B A n c F) (g : X.grownBy Y (Value.slice A n c).ownBlock) : Kb w B X Y :=
  ⟨g.size, fun k hk _ _ h3 => g.block k hk (fun e => by
    rcases h3 with h3 | h3
    · have := (h.lt k e.symm).1; omega
    · rcases h.2 with ⟨hv, _⟩ | ⟨q, cap, cur, hv, hB, hh, _⟩
      · injection hv with hv; subst hv; simp [Value.ownBlock] at e
      · injection hv with hv; subst hv
        obtain rfl : k = q := by simpa [Value.ownBlock] using e
        have := h3 _ hh
        cases this)⟩
theorem Kb.cell {w : World} {B j : Nat} (X : World) (v : Value) : Kb w B X (X.setCell ⟨w.heap.size + 1, j, none⟩ v) :=
  ⟨by show _ ≤ (X.heap.modify _ _).size; rw [Array.size_modify]; exact Nat.le_refl _, fun k _ h1 _ _ => Below.heap_setCell X ⟨w.heap.size + 1, j, none⟩ v k h1⟩
theorem Kb.post {w : World} {B q : Nat} {V V' : World} (h : Kb w B V V') (hB : w.heap.size + 4 ≤ B) (hq1 : w.heap.size + 4 ≤ q) (hq2 : q < B) (hq3 : q < V.heap.size) : KeepsFrom B V V' ∧ KpQ q V V' :=
  ⟨⟨h.1, fun k o hk ho hc => by
    have hl := (Array.getElem?_eq_some_iff.1 ho).1
    rw [h.2 k hl (by omega) (by omega) (.inr fun o' e => by rw [ho] at e; injection e with e; rw [← e]; exact hc)]
    exact ho⟩, h.2 q hq3 (by omega) (by omega) (.inl hq2)⟩
/-- One more of what is needed. -/
theorem NfS.app {w X Y : World} {B n c c' : Nat} {M : Bs → Bool} {A A' : Option Addr} {F F' : List Nd} (h : NfS w X B M A n c F) (hB : w.heap.size + 4 ≤ B) (r : OwnN Y B A' (n + 1) c' F') (g : X.grownBy Y (Value.slice A n c).ownBlock) :
    NfS w (Y.setCell ⟨w.heap.size + 1, 0, none⟩ (.slice A' (n + 1) c')) B M A' (n + 1) c' F' := by
  have nb : ∀ k, k < B → some k ≠ (Value.slice A n c).ownBlock := fun k hk e => by have := (h.oF.lt k e.symm).1; omega
  have hbY : Below w.heap.size w Y := h.bel.grown g h.bel.size (fun k e => by have := (h.oF.lt k e).1; omega)
  have bFY := h.bF.kept g (nb _ (by omega))
  refine ⟨bset hbY (by omega) _, bFY.set _, ?_, ?_, ?_, Nat.le_trans h.sz (Nat.le_trans g.size (grownBy_setCell' Y (w.heap.size + 1) (.slice A' (n + 1) c')).size)⟩
  · exact World.ownsRow.kept r (grownBy_setCell' Y (w.heap.size + 1) _) (.inr fun e => by
      have := (r.lt (w.heap.size + 1) (by rw [e])).1
      omega)
  · exact (h.bM.kept g (nb _ (by omega))).other (by omega) _
  · exact (h.nm.kept g (nb _ (by omega))).kept (grownBy_setCell' Y (w.heap.size + 1) _) (fun e => by injection e with e; omega)
/-- What stands between two rounds. -/
def IN (w : World) (B : Nat) (M : Bs → Bool) (E : Option Addr) (l : List Sp) (pre : List Nat) (X : World) : Prop := ∃ A n c, NfS w X B (runN M (pre.map (ndOf E l))).1 A n c (runN M (pre.map (ndOf E l))).2
def IS (w : World) (B : Nat) (M : Bs → Bool) (E : Option Addr) (l : List Sp) (co : Code) (pre : List Nat) (X : World) : Prop := co = .exit 0 ∧ IN w B M E l pre X ∧ ∀ s, (runN M (pre.map (ndOf E l))).1 s = false
theorem soft_keepN {X Y : World} {base n c : Nat} {A : Option Addr} {F : List Nd} {row : Option Nat} (h : OwnN X base A n c F) (hg : X.grownBy Y row) (hr : ∀ r, row = some r → ∃ o, X.heap[r]? = some o ∧ Soft o) : OwnN Y base A n c F := by
  refine World.ownsRow.kept h hg ?_
  cases row with
  | none => cases (Value.slice A n c).ownBlock <;> simp
  | some r =>
    right
    intro e'
    rcases h.2 with ⟨hv, _⟩ | ⟨q, cap, cur, hv, hB, hh, _⟩
    · injection hv with hv; subst hv; simp [Value.ownBlock] at e'
    · injection hv with hv; subst hv
      obtain rfl : q = r := by simpa [Value.ownBlock] using e'
      obtain ⟨o, ho, hso⟩ := hr q rfl
      rw [hh] at ho
      cases ho
      rcases hso with hso | ⟨u, hso⟩ | ⟨u, hso⟩
      · cases hso
      · injection hso with _ h2 _; exact absurd h2 (by decide)
      · injection hso with _ h2 _; exact absurd h2 (by decide)
theorem in_abd {w : World} {B : Nat} {M : Bs → Bool} {E : Option Addr} {l : List Sp} {ok : Nat → Prop} (hB : w.heap.size + 4 ≤ B) (h : ∀ r, ok r → w.heap.size + 4 ≤ r) : Abd ok (IN w B M E l) := by
  intro s X Y row ⟨A, n, c, H⟩ hg hr
  have far : ∀ b, b < w.heap.size + 4 → some b ≠ row := fun b hb e => by have := h b (hr b e.symm).1; omega
  exact ⟨A, n, c, H.bel.grown hg H.bel.size (fun k e => by have := h k (hr k e).1; omega), H.bF.kept hg (far _ (by omega)), soft_keepN H.oF hg (fun r e => (hr r e).2), H.bM.kept hg (far _ (by omega)), H.nm.kept hg (far _ (by omega)), Nat.le_trans H.sz hg.size⟩
theorem is_abd {w : World} {B : Nat} {M : Bs → Bool} {E : Option Addr} {l : List Sp} {ok : Nat → Prop} (hB : w.heap.size + 4 ≤ B) (h : ∀ r, ok r → w.heap.size + 4 ≤ r) (co : Code) : Abd ok (IS w B M E l co) := fun s X Y row ⟨h1, h2, h3⟩ hg hr => ⟨h1, in_abd hB h s X Y row h2 hg hr, h3⟩
end Go.Proofs.YtimbiobonigdmaaGreatDoor
