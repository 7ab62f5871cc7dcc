/- The program: meaningsOf. -/
import Derived.Test.YtimbiobonigdmaaGreatDoorM16
import Derived.Test.YtimbiobonigdmaaGreatDoorM14
set_option linter.unusedVariables false
set_option linter.unusedSimpArgs false
set_option linter.unusedVariables false
set_option linter.unusedSimpArgs false
namespace Go.Proofs.YtimbiobonigdmaaGreatDoor
open Go Go.RowKit Go.Shelf L8 L10 L14
attribute [local go_sem] Oper.semAt_some

def entM (m : Mg) (x : Sp) : Mg := putM m x.ns (entS m x)
theorem mgS_cons (x : Sp) (r : List Sp) : mgS (x :: r) = entM (mgS r) x := rfl
theorem mg_fold (r : List Sp) : r.reverse.foldl entM (fun _ => none) = mgS r := by
  induction r with
  | nil => rfl
  | cons x r ih => rw [List.reverse_cons, List.foldl_append, ih]; rfl
def spF (F : List Nd) (i : Nat) : Sp := (F.getD i nd0).2
theorem dn_sp (F : List Nd) : (dn F.length).map (spF F) = (F.map (·.2)).reverse := by
  unfold dn
  rw [List.map_reverse]
  congr 1
  apply List.ext_getElem?
  intro i
  by_cases h : i < F.length
  · simp [h, spF]
  · simp [h]
/-- What meaningsOf answers. -/
def MnA (w : World) (x : Ex) (l : List Sp) (e : Ending) (w' : World) : Prop := ∃ b m, e = .returned (.map (some b)) ∧ MgR w' b m ∧ Below w.heap.size w w' ∧ ∀ s ∈ nmE x, m s = mgS l.reverse s
/-- What is known while the specifications are entered. -/
structure MnS (w X : World) (B : Nat) (m : Mg) (F : List Nd) : Prop where
  bel : Below w.heap.size w X
  bM : Boxed X (w.heap.size + 2) 59 (.map (some (w.heap.size + 1)))
  mg : MgR X (w.heap.size + 1) m
  sp : ∀ y ∈ F, SpW X y.1 y.2
  sz : B ≤ X.heap.size
def IM (w : World) (B : Nat) (F : List Nd) (pre : List Nat) (X : World) : Prop := MnS w X B ((pre.map (spF F)).foldl entM (fun _ => none)) F
theorem km_hard {X Y : World} {row : Option Nat} (g : X.grownBy Y row) (hr : ∀ r, row = some r → ∃ o, X.heap[r]? = some o ∧ o.isCells = false) : Km X Y := fun p v hp => g.cell hp (fun e => by
  obtain ⟨o, h, ho⟩ := hr _ e.symm
  unfold World.cell? at hp
  rw [h] at hp
  cases o <;> first | cases hp | cases ho)
theorem MgR.grown {X Y : World} {b : Nat} {m : Mg} {row : Option Nat} (h : MgR X b m) (g : X.grownBy Y row) (hb : some b ≠ row) (k : Km X Y) : MgR Y b m := by
  obtain ⟨l, h1, h2⟩ := h
  refine ⟨l, h1.kept g hb, fun s => (h2 s).imp id ?_⟩
  rintro ⟨x, v, p, e1, e2, e3, e4⟩
  exact ⟨x, v, p, e1, e2, e3.km k, e4⟩
theorem MnS.grown {w X Y : World} {B : Nat} {m : Mg} {F : List Nd} {row : Option Nat} (h : MnS w X B m F) (g : X.grownBy Y row) (hr : ∀ r, row = some r → w.heap.size + 3 ≤ r ∧ ∃ o, X.heap[r]? = some o ∧ o.isCells = false) : MnS w Y B m F := by
  have far : ∀ b, b < w.heap.size + 3 → some b ≠ row := fun b hb e => by have := (hr b e.symm).1; omega
  have hb : Below w.heap.size w Y := h.bel.grown g h.bel.size (fun k e => by have := (hr k e).1; omega)
  have km := km_hard g fun r e => (hr r e).2
  exact ⟨hb, h.bM.kept g (far _ (by omega)), h.mg.grown g (far _ (by omega)) km, fun y hy => (h.sp y hy).km km, Nat.le_trans h.sz g.size⟩
theorem im_abd {w : World} {B : Nat} {F : List Nd} {ok : Nat → Prop} (h : ∀ r, ok r → w.heap.size + 3 ≤ r) : Hd.Abd ok (IM w B F) := fun s X Y row H hg hr => MnS.grown H hg (fun r e => ⟨h r (hr r e).1, (hr r e).2⟩)
theorem MnS.keep {w X Y : World} {B : Nat} {m : Mg} {F : List Nd} (h : MnS w X B m F) (b : Below X.heap.size X Y) : MnS w Y B m F := h.grown (row := none) (g_of_below b) (fun _ e => by cases e)
theorem MnS.ent {w X Y : World} {B : Nat} {m m' : Mg} {F : List Nd} (h : MnS w X B m F) (hB : w.heap.size + 3 ≤ B) (k : MgR Y (w.heap.size + 1) m') (g : X.grownBy Y (some (w.heap.size + 1))) : MnS w Y B m' F :=
  ⟨h.bel.grown g h.bel.size (fun k e => by injection e with e; omega), h.bM.kept g (fun e => by injection e with e; omega), k, fun y hy => (h.sp y hy).km (by obtain ⟨l, ML, _⟩ := h.mg; exact Km.map ML g), Nat.le_trans h.sz g.size⟩
theorem gr_post {V V' : World} {b B q : Nat} {A : Option Addr} (g : V.grownBy V' (some b)) (hb : b < B) (hq : q < V.heap.size) (hqb : q ≠ b) (hA : ∀ ad, A = some ad → ad.block < V.heap.size ∧ ad.block ≠ b) : KeepsFrom B V V' ∧ KpR q A V V' :=
  ⟨⟨g.size, fun k o hk ho _ => by
    have hl := (Array.getElem?_eq_some_iff.1 ho).1
    rw [g.block k hl (fun e => by injection e with e; omega)]
    exact ho⟩, g.block q hq (fun e => by injection e with e; exact hqb e), fun ad e => g.block _ (hA ad e).1 (fun e2 => by injection e2 with e2; exact (hA ad e).2 e2)⟩
theorem backward_in (n : Nat) (A : Option Addr) (k c : Nat) (w : World) :
    CallsIn Fence.wide n Tryz.prog 31 #[.slice A k c] w fun e w' => e = .returned (.func (.func 70) #[] #[.pointer (some ⟨w.heap.size, 0, none⟩)]) ∧ w' = w.alloc (.cells #[.slice A k c] 76) := by
  refine callsIn_of_wp Tryz.func31 rfl trivial ?_ rfl
  simp only [Tryz.ntmps31, List.size_toArray, List.length_cons, List.length_nil, Nat.reduceAdd, Nat.reduceSub, Array.replicate_succ, Array.replicate_zero, List.push_toArray, List.append_toArray, List.nil_append, List.cons_append]
  gi_wp2
  go_ret
  exact ⟨rfl, rfl⟩
set_option maxRecDepth 100000 in
set_option maxHeartbeats 16000000 in
theorem meanings_any (e : Ex) (A : Option Addr) (n c : Nat) (E : Option Addr) (k d : Nat) (l : List Sp) (w : World) (R : TrR w A c e.l) (hn : e.l.length = n) (ok : OKe e) (hm : mayE e = true) (S : SpR w E d l) (hk : l.length = k) (hk6 : k ≤ 1000000) (T : T10 w) :
    Calls Tryz.prog 21 #[exV e A n c, .slice E k d] w (MnA w e l) := by
  have CN : ∀ X, Below w.heap.size w X → Calls Tryz.prog 32 #[exV e A n c, .slice E k d] X (NdA X (addM (fun _ => false) (nmE e)) l) := fun X bX => needed_any e A n c E k d l X (R.keep bX) hn ok hm (S.keep bX) hk hk6 (T.below bX)
  have HP := box6 (boxS_new w 27 (exC e A n c))
  clear R hn ok hm S T
  dsimp only [exV, exC] at *
  obtain ⟨nm, hnm⟩ : ∃ nm, nmE e = nm := ⟨_, rfl⟩
  unfold MnA
  rw [hnm] at CN ⊢
  generalize strOf e.s = SE at *
  obtain ⟨p0, p1, p2, p3, p4, p5⟩ := HP
  have hmm := @run_makeMap Tryz.prog
  refine (callsIn_wide (n := 2)).1 ?_
  refine callsIn_of_wp_marks Tryz.func21 rfl trivial ?_ rfl
  simp only [Tryz.ntmps21, List.size_toArray, List.length_cons, List.length_nil, Nat.reduceAdd, Nat.reduceSub, Array.replicate_succ, Array.replicate_zero, List.push_toArray, List.append_toArray, List.nil_append, List.cons_append]
  gi_wp2
  have HV : Hid (Below w.heap.size w (((w.alloc (.cells #[.int .u8 (e.k : Int), .int .u8 (e.o : Int), .int .u8 (e.t : Int), .int .i32 e.n, .string SE, .slice A n c] 27)).alloc (.map #[] 0)).alloc (.cells #[.map (some (w.heap.size + 1))] 59)) ∧
      Boxed (((w.alloc (.cells #[.int .u8 (e.k : Int), .int .u8 (e.o : Int), .int .u8 (e.t : Int), .int .i32 e.n, .string SE, .slice A n c] 27)).alloc (.map #[] 0)).alloc (.cells #[.map (some (w.heap.size + 1))] 59)) (w.heap.size + 2) 59 (.map (some (w.heap.size + 1))) ∧
      MgR (((w.alloc (.cells #[.int .u8 (e.k : Int), .int .u8 (e.o : Int), .int .u8 (e.t : Int), .int .i32 e.n, .string SE, .slice A n c] 27)).alloc (.map #[] 0)).alloc (.cells #[.map (some (w.heap.size + 1))] 59)) (w.heap.size + 1) (fun _ => none)) := Lib.hid (by
    refine ⟨bal (bal (bal (b0 w) _) _) _, ?_, ?_⟩
    · have := Boxed.new ((w.alloc (.cells #[.int .u8 (e.k : Int), .int .u8 (e.o : Int), .int .u8 (e.t : Int), .int .i32 e.n, .string SE, .slice A n c] 27)).alloc (.map #[] 0)) 59 (.map (some (w.heap.size + 1)))
      simpa only [World.size_alloc] using this
    · have := (MgR.new (w.alloc (.cells #[.int .u8 (e.k : Int), .int .u8 (e.o : Int), .int .u8 (e.t : Int), .int .i32 e.n, .string SE, .slice A n c] 27))).keep (bal (b0 _) (.cells #[.map (some (w.heap.size + 1))] 59))
      simpa only [World.size_alloc] using this)
  have hsX : (((w.alloc (.cells #[.int .u8 (e.k : Int), .int .u8 (e.o : Int), .int .u8 (e.t : Int), .int .i32 e.n, .string SE, .slice A n c] 27)).alloc (.map #[] 0)).alloc (.cells #[.map (some (w.heap.size + 1))] 59)).heap.size = w.heap.size + 3 := by simp only [World.size_alloc]
  have CC := Lib.hid (CN _ HV.out.1)
  clear CN hmm p0 p1 p2 p3 p4 p5
  have e12 : w.heap.size + 1 + 1 = w.heap.size + 2 := rfl
  generalize hX : ((w.alloc (.cells #[.int .u8 (e.k : Int), .int .u8 (e.o : Int), .int .u8 (e.t : Int), .int .i32 e.n, .string SE, .slice A n c] 27)).alloc (.map #[] 0)).alloc (.cells #[.map (some (w.heap.size + 1))] 59) = X at *
  clear hX
  gi_wp2_with (first | (refine ⟨trivial, ?_⟩; gi_at_call 32; refine (callsIn_wide.2 CC.out).mono ?_; rintro e1 w1 ⟨A1, n1, c1, F, rfl, hN, hnc, hmx, hF, hS, hA, b1⟩) | (refine ⟨trivial, ?_⟩; gi_at_call 31; refine (backward_in _ _ _ _ _).mono ?_; rintro e1 w2 ⟨rfl, rfl⟩))
  obtain ⟨W0, hW0⟩ : ∃ W0, w1.alloc (.cells #[.slice A1 n1 c1] 76) = W0 := ⟨_, rfl⟩
  have bQ := Boxed.new w1 76 (.slice A1 n1 c1)
  have bA := bal (b0 w1) (.cells #[.slice A1 n1 c1] 76)
  have hs0 : (w1.alloc (.cells #[.slice A1 n1 c1] 76)).heap.size = w1.heap.size + 1 := World.size_alloc _ _
  rw [hW0] at bQ bA hs0 ⊢
  clear hW0 CC
  have hN0 := hN.keep bA
  have hsz := b1.size
  have hst : ∀ s ∈ nm, mgS (F.map (·.2)) s = mgS l.reverse s := fun s hs => by rw [hF]; exact need_is _ _ s (by unfold addM; rw [decide_eq_true hs]; simp)
  have h0 : IM w (w1.heap.size + 1) F [] W0 := ⟨blw (blw HV.out.1 b1) bA, (HV.out.2.1.kept (g_of_below b1) (by simp)).kept (g_of_below bA) (by simp), (HV.out.2.2.keep b1).keep bA, fun y hy => (hS y hy).keep bA, by omega⟩
  have hsW : w1.heap.size < W0.heap.size := by omega
  obtain ⟨q, hq⟩ : ∃ q, w1.heap.size = q := ⟨_, rfl⟩
  rw [hq] at bQ h0 hs0 hsz hA hsW ⊢
  clear hq HV b1 hN hF hS bA
  have hFl : F.length = n1 := hN0.len
  refine Hd.range_soft (own := fun _ => False) (fun _ h => h.elim) (gf := 70) (lb := #[.pointer (some ⟨q, 0, none⟩)]) rfl (enters_of Tryz.func70 (by kernel_rfl) rfl)
    (Hd.back_items hN0 hnc hmx bQ) kpR_t ?kpb (Below.refl _ _) (fun _ => rfl)
    (IM w (q + 1) F) (fun _ _ _ => False) (im_abd (fun r h => by rcases h with h | h; exact h.elim; omega)) (fun c => fun _ _ _ _ h _ _ => h)
    h0
    (fun x a' V => ∃ r, a' = { tmps := #[.agg #[.int .u8 (e.k : Int), .int .u8 (e.o : Int), .int .u8 (e.t : Int), .int .i32 e.n, .string SE, .slice A n c], .slice E k d, .pointer (some ⟨w.heap.size, 0, none⟩), undef, .map none, .pointer (some ⟨w.heap.size + 1 + 1, 0, none⟩), undef, .pointer (some ⟨r, 0, none⟩), .map (some (w.heap.size + 1)), .agg #[.int .u8 (e.k : Int), .int .u8 (e.o : Int), .int .u8 (e.t : Int), .int .i32 e.n, .string SE, .slice A n c], .slice E k d, .slice A1 n1 c1, .func (.func 70) #[] #[.pointer (some ⟨q, 0, none⟩)], .int .i64 (x : Int), .agg #[.pointer (some (F.getD x nd0).1), .bool (vald (F.getD x nd0).2)], undef, undef, undef, undef], defers := [] } ∧ BoxS V r 79 #[.pointer (some (F.getD x nd0).1), .bool (vald (F.getD x nd0).2)])
    ?ax ?assign ?body ?done ?stop
  case kpb =>
    intro V o o' hl ho
    exact ⟨World.putObj_heap_other (by omega), fun ad e => World.putObj_heap_other (by have := hA ad e; omega)⟩
  case ax =>
    rintro x a' V o o' ⟨r, h1, h2⟩ hl ho
    refine ⟨r, h1, (World.putObj_heap_other (fun e => ?_)).trans h2⟩
    rw [← e] at hl
    unfold BoxS at h2
    rw [h2] at hl
    injection hl with hl
    rw [← hl] at ho
    cases ho
  case assign =>
    rintro l2 pre x V K hI hK
    unfold encB
    have hsV := hI.sz
    generalize F.getD x nd0 = y at *
    gi_wp2
    refine hK _ _ ?_ ?_ (hI.keep (bal (b0 V) _)) ⟨V.heap.size, rfl, boxS_new V _ _⟩
    · exact (gr_post (q := q) (A := A1) (g_any (g_of_below (bal (b0 V) _)) (some (w.heap.size + 1))) (by omega) (by omega) (by omega) (fun ad e => by have := hA ad e; omega)).1
    · exact (gr_post (B := q + 1) (g_any (g_of_below (bal (b0 V) _)) (some (w.heap.size + 1))) (by omega) (by omega) (by omega) (fun ad e => by have := hA ad e; omega)).2
  case body =>
    rintro l2 pre x a' V H ⟨r, rfl, BX⟩ hsp
    have hx : x < F.length := by rw [hFl]; exact dn_mem (hsp.subset (by simp))
    have hsV := H.sz
    have hSp : SpW V (F.getD x nd0).1 (F.getD x nd0).2 := H.sp _ (by rw [List.getD_eq_getElem?_getD, List.getElem?_eq_getElem hx]; exact List.getElem_mem _)
    have CE := enter_any _ _ V H.mg hSp
    have HE := Lib.hid (fun V' (h1 : MgR V' (w.heap.size + 1) (putM ((pre.map (spF F)).foldl entM (fun _ => none)) (F.getD x nd0).2.ns (entS ((pre.map (spF F)).foldl entM (fun _ => none)) (F.getD x nd0).2))) (h2 : V.grownBy V' (some (w.heap.size + 1))) => (show (KeepsFrom W0.heap.size V V' ∧ KpR q A1 V V') ∧ IM w (q + 1) F (pre ++ [x]) V' from
      ⟨gr_post h2 (by omega) (by omega) (by omega) (fun ad e => by have := hA ad e; omega), by
        unfold IM
        rw [List.map_append, List.foldl_append]
        exact MnS.ent H (by omega) h1 h2⟩))
    have c5 := H.bM.cell
    obtain ⟨x0, x1⟩ : V.cell? ⟨r, 0, none⟩ = some (.pointer (some (F.getD x nd0).1)) ∧ V.cell? ⟨r, 1, none⟩ = some (.bool (vald (F.getD x nd0).2)) := ⟨(BX.cell 0).trans rfl, (BX.cell 1).trans rfl⟩
    unfold EntR at CE
    generalize putM _ _ _ = m2 at *
    generalize F.getD x nd0 = y at *
    have CE := Lib.hid CE
    clear H BX hSp
    gi_wp2_with (refine ⟨trivial, rfl, ?_⟩; gi_at_call 33; refine (CallsIn.inRound l2 (callsIn_wide.2 CE.out)).mono ?_; rintro e1 V2 ⟨rfl, h1, h2⟩)
    exact HE.out V2 h1 h2
  case done =>
    rintro D ys V hD rfl H hK
    have HM : Hid (MgR (V.putObj D (.deferred none)) (w.heap.size + 1) (mgS (F.map (·.2))) ∧ Below w.heap.size w (V.putObj D (.deferred none))) := Lib.hid (by
      have h1 := H.mg
      have h2 := H.bel
      rw [← hFl, dn_sp, mg_fold] at h1
      have hg := grownBy_putObj' V D (.deferred none)
      exact ⟨h1.grown hg (fun e => by injection e with e; omega) (km_put hK rfl _), h2.grown hg h2.size (fun k e => by injection e with e; omega)⟩)
    have c5 := H.bM.cell
    have HK := Lib.hid hK
    clear hK H
    gi_wp2
    try rw [Exit.noGoto_ret]
    refine ⟨by simp, .inl ⟨_, _, rfl, run_takeDeferred HK.out, ?_⟩⟩
    refine ⟨.map (some (w.heap.size + 1)), ?_, ?_⟩
    · simp [results, Tryz.f21, go_sem]
    · exact ⟨_, _, rfl, HM.out.1, HM.out.2, hst⟩
  case stop =>
    rintro D co pre V hD hpre h hK
    exact h.elim
end Go.Proofs.YtimbiobonigdmaaGreatDoor
/- The program: Const and Fold. -/
set_option linter.unusedVariables false
set_option linter.unusedSimpArgs false
namespace Go.Proofs.YtimbiobonigdmaaGreatDoor
open Go Go.RowKit Go.Shelf L8 L10 L14
attribute [local go_sem] Oper.semAt_some

/-- What Const answers. -/
def CoR (w : World) (r : Int × Int) (e : Ending) (w' : World) : Prop := e = .returned (.tuple #[.int .i32 r.1, .int .i64 r.2]) ∧ Below w.heap.size w w'
theorem constX_bad {e : Ex} (r : List Sp) (h : mayE e = false) : constX e r = (0, 2) := by unfold constX; rw [h]; rfl
theorem constX_none {e : Ex} {r : List Sp} (h : mayE e = true) (hv : vOf (mgS r) e = none) : constX e r = (0, 140) := by unfold constX; rw [if_pos h, hv]
theorem constX_some {e : Ex} {r : List Sp} {v : Int} (h : mayE e = true) (hv : vOf (mgS r) e = some v) : constX e r = (v, 0) := by unfold constX; rw [if_pos h, hv]
set_option maxRecDepth 100000 in
set_option maxHeartbeats 16000000 in
theorem const_any (e : Ex) (A : Option Addr) (n c : Nat) (E : Option Addr) (k d : Nat) (l : List Sp) (w : World) (R : TrR w A c e.l) (hn : e.l.length = n) (ok : OKe e) (S : SpR w E d l) (hk : l.length = k) (hk6 : k ≤ 1000000) (T : T10 w) :
    Calls Tryz.prog 7 #[exV e A n c, .slice E k d] w (CoR w (constX e l.reverse)) := by
  have bA := bal (b0 w) (.cells (exC e A n c) 27)
  have CM := PMayX_any e A n c _ (R.keep bA) hn ok (T.below bA)
  have HP := boxS_new w 27 (exC e A n c)
  cases hm : mayE e with
  | false =>
    rw [constX_bad _ hm]
    rw [hm] at CM
    have CM := Lib.hid CM
    have HP := box6 HP
    have HA := Lib.hid bA
    unfold CoR
    clear R hn ok S T hm bA
    dsimp only [exV, exC] at *
    generalize strOf e.s = SE at *
    obtain ⟨p0, p1, p2, p3, p4, p5⟩ := HP
    go_enter Tryz.func7, Tryz.ntmps7
    go_wp2_with (go_at_call 20; (with_reducible refine (CM.out).mono ?_); rintro e1 w1 ⟨rfl, b1⟩; have H1 := Lib.hid (blw HA.out b1); clear b1)
    refine bodyPost_ret (v := .tuple #[.int .i32 0, .int .i64 2]) (by simp [results, Tryz.results7, go_sem]) rfl ⟨rfl, H1.out⟩
  | true =>
    rw [hm] at CM
    have CM := Lib.hid CM
    have CN := Lib.hid fun X (bX : Below w.heap.size w X) => meanings_any e A n c E k d l X (R.keep bX) hn ok hm (S.keep bX) hk hk6 (T.below bX)
    have HV := Lib.hid fun b m X (bX : Below w.heap.size w X) (M : MgR X b m) (ha : ∀ s ∈ nmE e, m s = mgS l.reverse s) => (show Calls Tryz.prog 22 #[.map (some b), exV e A n c] X (VlR X (vOf (mgS l.reverse) e)) by
      rw [← (mg_agree ha).1]
      exact value_any e (may_parts.1 hm).1 A n c X (R.keep bX) hn ok M)
    have HA := Lib.hid bA
    have HP2 := Lib.hid fun X (bX : Below (w.alloc (.cells (exC e A n c) 27)).heap.size (w.alloc (.cells (exC e A n c) 27)) X) => box6 (HP.below bX)
    have HP := box6 HP
    have HC1 := Lib.hid fun hv => constX_none (r := l.reverse) hm hv
    have HC2 := Lib.hid fun v hv => constX_some (r := l.reverse) (v := v) hm hv
    unfold MnA at CN
    unfold VlR apR at HV
    clear R hn ok S T bA hm
    obtain ⟨nm, hnm⟩ : ∃ nm, nmE e = nm := ⟨_, rfl⟩
    rw [hnm] at CN HV
    clear hnm
    generalize vOf (mgS l.reverse) e = v at *
    generalize constX e l.reverse = r at *
    generalize mgS l.reverse = G at *
    dsimp only [exV, exC] at *
    generalize strOf e.s = SE at *
    obtain ⟨p0, p1, p2, p3, p4, p5⟩ := HP
    unfold CoR
    cases v with
    | none =>
      have hr := HC1.out rfl
      subst hr
      dsimp only [Option.getD, Option.isSome] at HV
      clear HC1 HC2
      go_enter Tryz.func7, Tryz.ntmps7
      go_wp2_with (go_at_call 20; (with_reducible refine (CM.out).mono ?_); rintro e1 w1 ⟨rfl, b1⟩; have H1 := Lib.hid (show Below _ _ w1.drew from bdrew b1 1); have C1 := Lib.hid (CN.out _ (blw HA.out H1.out)); clear p0 p1 p2 p3 p4 p5; obtain ⟨p0, p1, p2, p3, p4, p5⟩ := HP2.out _ b1; clear b1)
      go_region_law (first
        | (go_simp; go_at_call 21; (with_reducible refine (C1.out).mono ?_); rintro e2 w2 ⟨b, m, rfl, M2, b2, a2⟩; have H2 := Lib.hid (blw H1.out b2); have C2 := Lib.hid (HV.out b m w2 (blw HA.out H2.out) M2 a2); clear M2 b2 a2; obtain ⟨q0, q1, q2, q3, q4, q5⟩ := HP2.out _ H2.out)
        | (go_simp; go_at_call 22; (with_reducible refine (C2.out).mono ?_); rintro e2 w3 ⟨rfl, b3⟩; have H3 := Lib.hid (blw H2.out b3); clear b3))
      all_goals
        go_wp2
        refine bodyPost_ret (v := .tuple #[.int .i32 0, .int .i64 140]) (by simp [results, Tryz.results7, go_sem]) rfl ⟨rfl, blw HA.out H3.out⟩
    | some v =>
      have hr := HC2.out v rfl
      subst hr
      dsimp only [Option.getD, Option.isSome] at HV
      clear HC1 HC2
      go_enter Tryz.func7, Tryz.ntmps7
      go_wp2_with (go_at_call 20; (with_reducible refine (CM.out).mono ?_); rintro e1 w1 ⟨rfl, b1⟩; have H1 := Lib.hid (show Below _ _ w1.drew from bdrew b1 1); have C1 := Lib.hid (CN.out _ (blw HA.out H1.out)); clear p0 p1 p2 p3 p4 p5; obtain ⟨p0, p1, p2, p3, p4, p5⟩ := HP2.out _ b1; clear b1)
      go_region_law (first
        | (go_simp; go_at_call 21; (with_reducible refine (C1.out).mono ?_); rintro e2 w2 ⟨b, m, rfl, M2, b2, a2⟩; have H2 := Lib.hid (blw H1.out b2); have C2 := Lib.hid (HV.out b m w2 (blw HA.out H2.out) M2 a2); clear M2 b2 a2; obtain ⟨q0, q1, q2, q3, q4, q5⟩ := HP2.out _ H2.out)
        | (go_simp; go_at_call 22; (with_reducible refine (C2.out).mono ?_); rintro e2 w3 ⟨rfl, b3⟩; have H3 := Lib.hid (blw H2.out b3); clear b3))
      all_goals
        go_wp2
        refine bodyPost_ret (v := .tuple #[.int .i32 v, .int .i64 0]) (by simp [results, Tryz.results7, go_sem]) rfl ⟨rfl, blw HA.out H3.out⟩
/-- What Fold answers. -/
def FoR (w : World) (r : Ex × Int) (e : Ending) (w' : World) : Prop := ∃ A c, e = .returned (.tuple #[exV r.1 A r.1.l.length c, .int .i64 r.2]) ∧ TrN w' (fun k => w.heap.size ≤ k) A c r.1.l ∧ OKe r.1 ∧ Below w.heap.size w w'
theorem foldX_bad {e : Ex} (r : List Sp) (h : mayE e = false) : foldX e r = (e0, 2) := by unfold foldX; rw [h]; rfl
theorem foldX_ok {e : Ex} (r : List Sp) (h : mayE e = true) : foldX e r = (fOf (mgS r) e, 0) := by unfold foldX; rw [if_pos h]
theorem ok_e0 : OKe e0 := ⟨(by show (0 : Nat) < 256; decide), (by show (0 : Nat) < 256; decide), (by show (0 : Nat) < 256; decide), by show (-2147483648 : Int) ≤ 0; decide, by show (0 : Int) ≤ 2147483647; decide, by show 0 ≤ maxLen; omega⟩
set_option maxRecDepth 100000 in
set_option maxHeartbeats 16000000 in
theorem fold_any (e : Ex) (A : Option Addr) (n c : Nat) (E : Option Addr) (k d : Nat) (l : List Sp) (w : World) (R : TrR w A c e.l) (hn : e.l.length = n) (ok : OKe e) (S : SpR w E d l) (hk : l.length = k) (hk6 : k ≤ 1000000) (T : T10 w) :
    Calls Tryz.prog 9 #[exV e A n c, .slice E k d] w (FoR w (foldX e l.reverse)) := by
  have HN := Lib.hid (FdS.new w (exC e A n c))
  have CM := PMayX_any e A n c _ (R.keep HN.out.bel) hn ok (T.below HN.out.bel)
  have HP := Lib.hid (box6 HN.out.box)
  unfold FoR
  cases hm : mayE e with
  | false =>
    rw [foldX_bad _ hm]
    rw [hm] at CM
    have CM := Lib.hid CM
    clear R hn ok S T hm
    dsimp only [exV, exC] at *
    generalize hS : strOf e0.s = S0 at *
    obtain rfl : S0 = ⟨#[]⟩ := hS.symm
    clear hS
    generalize strOf e.s = SE at *
    unfold zeroC at HN
    unfold zeroC at HP
    unfold zeroC at CM
    obtain ⟨p0, p1, p2, p3, p4, p5⟩ := HP.out
    go_enter Tryz.func9, Tryz.ntmps9
    go_wp2_with (go_at_call 20; (with_reducible refine (CM.out).mono ?_); rintro e1 w1 ⟨rfl, b1⟩; have H1 := Lib.hid (HN.out.step b1); clear b1; obtain ⟨r0, r1, r2, r3, r4, r5⟩ := box6 H1.out.res; obtain ⟨f0, f1, f2, f3, f4, f5⟩ := box6f H1.out.res)
    have KQ := Lib.hid (H1.out.fin (.int .u8 0) (.int .u8 0) (.int .u8 0) (.int .i32 0) (.string ⟨#[]⟩) (.slice none 0 0))
    unfold set6 at KQ
    clear r0 r1 r2 r3 r4 r5 f0 f1 f2 f3 f4 f5
    generalize (((((w1.setCell ⟨w.heap.size + 1, 0, none⟩ (.int .u8 0)).setCell ⟨w.heap.size + 1, 1, none⟩ (.int .u8 0)).setCell ⟨w.heap.size + 1, 2, none⟩ (.int .u8 0)).setCell ⟨w.heap.size + 1, 3, none⟩ (.int .i32 0)).setCell ⟨w.heap.size + 1, 4, none⟩ (.string ⟨#[]⟩)).setCell ⟨w.heap.size + 1, 5, none⟩ (.slice none 0 0) = X at *
    obtain ⟨y0, y1, y2, y3, y4, y5⟩ := box6 KQ.out.1
    refine bodyPost_ret (v := .tuple #[.agg #[.int .u8 0, .int .u8 0, .int .u8 0, .int .i32 0, .string ⟨#[]⟩, .slice none 0 0], .int .i64 2]) (by simp [results, Tryz.results9, go_sem, y0, y1, y2, y3, y4, y5]) rfl ⟨none, 0, rfl, TrN.nil _ _, ok_e0, KQ.out.2⟩
  | true =>
    rw [foldX_ok _ hm]
    rw [hm] at CM
    have CM := Lib.hid CM
    have CN := Lib.hid fun X (bX : Below w.heap.size w X) => meanings_any e A n c E k d l X (R.keep bX) hn ok hm (S.keep bX) hk hk6 (T.below bX)
    have HV := Lib.hid fun b m X (bX : Below w.heap.size w X) (M : MgR X b m) (ha : ∀ s ∈ nmE e, m s = mgS l.reverse s) => (show Calls Tryz.prog 26 #[.map (some b), exV e A n c] X (FdR X (fOf (mgS l.reverse) e)) by
      rw [← (mg_agree ha).2]
      exact folded_any e (may_parts.1 hm).1 A n c X (R.keep bX) hn ok M (T.below bX))
    unfold MnA at CN
    unfold FdR at HV
    clear R hn ok S T hm
    obtain ⟨nm, hnm⟩ : ∃ nm, nmE e = nm := ⟨_, rfl⟩
    rw [hnm] at CN HV
    clear hnm
    generalize fOf (mgS l.reverse) e = f at *
    generalize mgS l.reverse = G at *
    dsimp only [exV, exC] at *
    generalize strOf e.s = SE at *
    obtain ⟨SF, hSF⟩ : ∃ SF, strOf f.s = SF := ⟨_, rfl⟩
    rw [hSF] at HV ⊢
    clear hSF
    unfold zeroC at HN
    unfold zeroC at HP
    unfold zeroC at CM
    obtain ⟨p0, p1, p2, p3, p4, p5⟩ := HP.out
    go_enter Tryz.func9, Tryz.ntmps9
    go_wp2_with (go_at_call 20; (with_reducible refine (CM.out).mono ?_); rintro e1 w1 ⟨rfl, b1⟩; have H0 := HN.out.step b1; have H1 := Lib.hid (H0.step (show Below w1.heap.size w1 w1.drew from bdrew (b0 w1) 1)); have C1 := Lib.hid (CN.out _ H1.out.bel); clear p0 p1 p2 p3 p4 p5; obtain ⟨p0, p1, p2, p3, p4, p5⟩ := box6 H0.box; clear b1 H0)
    go_region_law (first
      | (go_simp; go_at_call 21; (with_reducible refine (C1.out).mono ?_); rintro e2 w2 ⟨b, m, rfl, M2, b2, a2⟩; have H2 := Lib.hid (H1.out.step b2); have C2 := Lib.hid (HV.out b m w2 H2.out.bel M2 a2); clear M2 b2 a2; obtain ⟨q0, q1, q2, q3, q4, q5⟩ := box6 H2.out.box)
      | (go_simp; go_at_call 26; (with_reducible refine (C2.out).mono ?_); rintro e2 w3 ⟨Af, cf, rfl, tf, okf, b3⟩; have H3 := Lib.hid (H2.out.step b3); have HT := Lib.hid (tf.mono fun k _ hk => (by have := H2.out.lt; omega : w.heap.size + 2 ≤ k)); have HO := Lib.hid okf; obtain ⟨r0, r1, r2, r3, r4, r5⟩ := box6 H3.out.res; obtain ⟨f0, f1, f2, f3, f4, f5⟩ := box6f H3.out.res; clear b3 tf okf))
    all_goals
      have KQ := Lib.hid (H3.out.fin (.int .u8 (f.k : Int)) (.int .u8 (f.o : Int)) (.int .u8 (f.t : Int)) (.int .i32 f.n) (.string SF) (.slice Af f.l.length cf))
      have KT := Lib.hid (HT.out.fr (fr_set6 w3 (w.heap.size + 1) (.int .u8 (f.k : Int)) (.int .u8 (f.o : Int)) (.int .u8 (f.t : Int)) (.int .i32 f.n) (.string SF) (.slice Af f.l.length cf)) fun k _ hk e => by omega)
      unfold set6 at KQ KT
      go_wp2
      clear q0 q1 q2 q3 q4 q5 r0 r1 r2 r3 r4 r5 f0 f1 f2 f3 f4 f5
      generalize (((((w3.setCell ⟨w.heap.size + 1, 0, none⟩ (.int .u8 (f.k : Int))).setCell ⟨w.heap.size + 1, 1, none⟩ (.int .u8 (f.o : Int))).setCell ⟨w.heap.size + 1, 2, none⟩ (.int .u8 (f.t : Int))).setCell ⟨w.heap.size + 1, 3, none⟩ (.int .i32 f.n)).setCell ⟨w.heap.size + 1, 4, none⟩ (.string SF)).setCell ⟨w.heap.size + 1, 5, none⟩ (.slice Af f.l.length cf) = X at *
      obtain ⟨y0, y1, y2, y3, y4, y5⟩ := box6 KQ.out.1
      refine bodyPost_ret (v := .tuple #[.agg #[.int .u8 (f.k : Int), .int .u8 (f.o : Int), .int .u8 (f.t : Int), .int .i32 f.n, .string SF, .slice Af f.l.length cf], .int .i64 0]) (by simp [results, Tryz.results9, go_sem, y0, y1, y2, y3, y4, y5]) rfl ⟨Af, cf, rfl, KT.out.mono fun k _ hk => (by omega), HO.out, KQ.out.2⟩
end Go.Proofs.YtimbiobonigdmaaGreatDoor
