/- The reference: folding. -/
import Derived.Test.YtimbiobonigdmaaGreatDoorZkd
import Derived.Test.YtimbiobonigdmaaGreatDoorM06
import Derived.Test.YtimbiobonigdmaaGreatDoorM14
import Derived.Deep.RegionHeld3
import Derived.Deep.CutRange
set_option linter.unusedVariables false
set_option linter.unusedSimpArgs false
namespace Go.Proofs.YtimbiobonigdmaaGreatDoor
open Go Go.RowKit L8 L10 L14

theorem rmay_lit (K : Nat) (v : Int) (hK : K < 256) (hv : inW v) (X : World) : Calls Tryz.prog 23 #[.agg #[.int .u8 (K : Int), .int .u8 0, .int .u8 0, .int .i32 v, .string ⟨#[]⟩, .slice none 0 0]] X fun en w' => en = .returned (.bool (mayE (litE K v))) ∧ Below X.heap.size X w' :=
  RMayX_any (litE K v) none 0 0 X (TrR.nil X) rfl (ok_lit hK hv)
theorem find_there {l : List Sp} {e : Ex} (h : vOf (prefM l l.length) e ≠ none) (hk : e.k = 4) : fndN l e.s l.length ≠ none := fun hf => by
  apply h
  unfold vOf
  rw [valE_eq, hk]
  show rho (prefM l l.length) e.s = none
  rw [rho_find (Nat.le_refl _), hf]
  rfl
set_option maxRecDepth 100000 in
set_option maxHeartbeats 8000000 in
theorem rfold_lit {E K : Option Addr} {kk d kn kc : Nat} {l : List Sp} (hk : l.length = kk) (h2 : kk ≤ kn) (e : Ex) (A : Option Addr) (n c : Nat) (w : World) (R : TrR w A c e.l) (hn : e.l.length = n) (ok : OKe e) (ha : allE e = true) (S : SpR w E d l) (KN : KnR w K kc (valsL l kn)) (v : Int) (hv : vOf (prefM l kk) e = some v) (hm : mayE (litE (litK e.k e.o e.t (tau (prefM l kk) e.s)) v) = true) :
    Calls Tryz.prog 27 #[exV e A n c, .slice E kk d, .slice K kn kc] w (FdR w (litE (litK e.k e.o e.t (tau (prefM l kk) e.s)) v)) := by
  have hin := val_in (inM_env S kk (by omega)) e ok R v hv
  have hlt : litK e.k e.o e.t (tau (prefM l kk) e.s) < 256 := litK_lt ok.1
  have hs : e.k = 4 → fndN l e.s kk ≠ none := fun h4 => by subst hk; exact find_there (by rw [hv]; simp) h4
  have CV : ∀ X, Below w.heap.size w X → Calls Tryz.prog 24 #[exV e A n c, .slice E kk d, .int .i64 (kk : Int), .slice K kn kc] X (VlR X (vOf (prefM l kk) e)) := fun X bX => Rval14_any hk (Nat.le_refl _) h2 e ha A n c X (R.keep bX) hn ok (S.keep bX) (KN.keep bX)
  have CK : ∀ X, Below w.heap.size w X → Calls Tryz.prog 42 #[exV e A n c, .slice E kk d] X (KdR X (litK e.k e.o e.t (tau (prefM l kk) e.s))) := fun X bX => Rkind_any hk e ha A n c X hn (S.keep bX) hs
  have HL := Lib.hid (ok_lit hlt hin)
  have CM : ∀ X : World, _ := fun X => rmay_lit _ v hlt hin X
  rw [hm] at CM
  rw [hv] at CV
  have HN := Lib.hid (FdS.new w (exC e A n c))
  clear R hn ok ha S KN hv hs hm hin hlt hk h2
  generalize litK e.k e.o e.t (tau (prefM l kk) e.s) = K1 at *
  unfold VlR apR at CV
  unfold KdR at CK
  dsimp only [Option.getD, Option.isSome] at CV
  dsimp only [exV, exC] at *
  generalize strOf e.s = S at *
  unfold zeroC at HN
  have CV := Lib.hid CV
  have CK := Lib.hid CK
  have CM := Lib.hid CM
  have C1 := Lib.hid (CV.out _ HN.out.bel)
  have HP := Lib.hid (box6 HN.out.box)
  obtain ⟨p0, p1, p2, p3, p4, p5⟩ := HP.out
  go_enter Tryz.func27, Tryz.ntmps27
  go_wp2_with (first
    | (go_at_call 24; (with_reducible refine (C1.out).mono ?_); rintro e1 w1 ⟨rfl, b⟩; have H1 := Lib.hid (HN.out.step b); have C2 := Lib.hid (CK.out w1 H1.out.bel); obtain ⟨p0, p1, p2, p3, p4, p5⟩ := box6 H1.out.box; clear b)
    | (go_at_call 42; (with_reducible refine (C2.out).mono ?_); rintro e1 w2 ⟨rfl, b⟩; have H2 := Lib.hid (H1.out.step b); clear b)
    | (go_at_call 23; (with_reducible refine (CM.out _).mono ?_); rintro e1 w3 ⟨rfl, b⟩; have H3 := Lib.hid ((H2.out.step (bal (b0 w2) (.cells #[.int .u8 (K1 : Int), .int .u8 0, .int .u8 0, .int .i32 v, .string ⟨#[]⟩, .slice none 0 0] 27))).step b); obtain ⟨l0, l1, l2, l3, l4, l5⟩ := box6 ((boxS_new w2 27 #[.int .u8 (K1 : Int), .int .u8 0, .int .u8 0, .int .i32 v, .string ⟨#[]⟩, .slice none 0 0]).below b); obtain ⟨r0, r1, r2, r3, r4, r5⟩ := box6 H3.out.res; obtain ⟨f0, f1, f2, f3, f4, f5⟩ := box6f H3.out.res; clear b))
  have KQ := Lib.hid (H3.out.fin (.int .u8 (K1 : Int)) (.int .u8 0) (.int .u8 0) (.int .i32 v) (.string ⟨#[]⟩) (.slice none 0 0))
  unfold set6 at KQ
  clear l0 l1 l2 l3 l4 l5 r0 r1 r2 r3 r4 r5 f0 f1 f2 f3 f4 f5
  generalize (((((w3.setCell ⟨w.heap.size + 1, 0, none⟩ (.int .u8 (K1 : Int))).setCell ⟨w.heap.size + 1, 1, none⟩ (.int .u8 0)).setCell ⟨w.heap.size + 1, 2, none⟩ (.int .u8 0)).setCell ⟨w.heap.size + 1, 3, none⟩ (.int .i32 v)).setCell ⟨w.heap.size + 1, 4, none⟩ (.string ⟨#[]⟩)).setCell ⟨w.heap.size + 1, 5, none⟩ (.slice none 0 0) = X at *
  obtain ⟨y0, y1, y2, y3, y4, y5⟩ := box6 KQ.out.1
  refine bodyPost_ret (v := .agg #[.int .u8 (K1 : Int), .int .u8 0, .int .u8 0, .int .i32 v, .string ⟨#[]⟩, .slice none 0 0]) (by simp [results, Tryz.results27, go_sem, y0, y1, y2, y3, y4, y5]) rfl ⟨none, 0, rfl, TrN.nil _ _, HL.out, KQ.out.2⟩
/-! ### The parts -/
theorem own_frz {w w' : World} {P : Nat → Prop} {B n c s : Nat} {t : TypeId} {A : Option Addr} {xs : List Value} (h : w.ownsRow B t s (.slice A n c) n xs) (g : Fr w w' P) (hA : ∀ ad, A = some ad → ¬ P ad.block) : w'.ownsRow B t s (.slice A n c) n xs := by
  refine ⟨h.1, ?_⟩
  rcases h.2 with h2 | ⟨q, cap, cur, hv, hB, hh, rest⟩
  · exact .inl h2
  · refine .inr ⟨q, cap, cur, hv, hB, g.obj hh ?_, rest⟩
    injection hv with h1
    exact hA _ h1
theorem trO_fr {w w' : World} {P : Nat → Prop} {B n c : Nat} {A : Option Addr} {l : List It} (h : TrO w B A n c l) (g : Fr w w' P) (hP : ∀ k, B ≤ k → ¬ P k) : TrO w' B A n c l :=
  ⟨own_frz h.own g fun ad e => hP _ (World.ownsRow.lt h.own ad.block (by rw [e]; rfl)).1, h.ok, fun j hj => (h.sub j hj).fr g fun k _ n => hP k n.1⟩
/-- A world in which the tree lies in a box, the result's box is empty, and j parts have been folded into the box of the copy. -/
structure Cqs (w X : World) (e : Ex) (A : Option Addr) (n c q : Nat) (B : Option Addr) (j d : Nat) (L : List It) : Prop where
  fd : FdS w X (exC e A n c)
  own : BoxS X q 27 (exC e B j d)
  hq : w.heap.size + 2 ≤ q
  row : TrO X (q + 1) B j d L
theorem Cqs.step {w X Y : World} {e : Ex} {A B : Option Addr} {n c q j d : Nat} {l : List It} (h : Cqs w X e A n c q B j d l) (b : Below X.heap.size X Y) : Cqs w Y e A n c q B j d l := ⟨h.fd.step b, h.own.below b, h.hq, h.row.keep b⟩
theorem Cqs.lt {w X : World} {e : Ex} {A B : Option Addr} {n c q j d : Nat} {l : List It} (h : Cqs w X e A n c q B j d l) : q + 1 ≤ X.heap.size := h.own.lt
theorem Cqs.new {w X : World} {e : Ex} {A : Option Addr} {n c : Nat} (h : FdS w X (exC e A n c)) : Cqs w (X.alloc (.cells (exC e none 0 0) 27)) e A n c X.heap.size none 0 0 [] := ⟨h.step (bal (b0 X) _), boxS_new X _ _, h.lt, TrO.nil _ _⟩
theorem Cqs.nb {w X : World} {e : Ex} {A B : Option Addr} {n c q j d : Nat} {l : List It} (h : Cqs w X e A n c q B j d l) {k : Nat} (hk : X.heap.size ≤ k) : Nb (q + 1) B k := by
  refine ⟨by have := h.lt; omega, fun ad e => ?_⟩
  subst e
  have := (World.ownsRow.lt h.row.own ad.block rfl).2
  omega
theorem set_box5' {W : World} {k : Nat} {t : TypeId} {a b c d e f : Value} (h : BoxS W k t #[a, b, c, d, e, f]) (v : Value) : BoxS (W.setCell ⟨k, 5, none⟩ v) k t #[a, b, c, d, e, v] := by
  have := boxset h 5 v
  simpa using this
theorem fr_one' (W : World) (k i : Nat) (v : Value) : Fr W (W.setCell ⟨k, i, none⟩ v) (fun q => q = k) :=
  ⟨rfl, rfl, rfl, by show _ ≤ (W.heap.modify k _).size; rw [Array.size_modify]; exact Nat.le_refl _, fun j _ hr => Below.heap_setCell W ⟨k, i, none⟩ v j (fun e => hr (by rw [show j = k from e]))⟩
/-- A part that was folded has been appended. -/
theorem Cqs.app {w X Y : World} {e : Ex} {A B B2 : Option Addr} {n c q j d d2 : Nat} {l : List It} {x : It} (h : Cqs w X e A n c q B j d l) (o : TrO Y (q + 1) B2 (j + 1) d2 (l ++ [x])) (g : X.grownBy Y (Value.slice B j d).ownBlock) :
    Cqs w (Y.setCell ⟨q, 5, none⟩ (.slice B2 (j + 1) d2)) e A n c q B2 (j + 1) d2 (l ++ [x]) ∧ Y.frozen? ⟨q, 5, none⟩ = false ∧ Y.cell? ⟨q, 5, none⟩ = some (.slice B j d) := by
  have hq := h.hq
  have k : Fr X Y (fun k => q + 1 ≤ k) := Fr.ofG g fun k e => by
    obtain ⟨ad, e1, e2⟩ := ob_some e
    subst e1
    have := (World.ownsRow.lt h.row.own ad.block rfl).1
    omega
  have g2 := fr_one' Y q 5 (.slice B2 (j + 1) d2)
  have b : Below w.heap.size w Y := bgrow h.fd.bel h.row.own (by omega) g
  refine ⟨⟨⟨bset b (by omega) _, g2.box (k.box h.fd.box (by omega)) (by omega), g2.box (k.box h.fd.res (by omega)) (by omega)⟩, set_box5' (k.box h.own (by omega)) _, hq, trO_fr o g2 (fun k hk => by omega)⟩, (k.box h.own (by omega)).frozen 5, (box6 (k.box h.own (by omega))).2.2.2.2.2⟩
theorem Cqs.cells {w X : World} {e : Ex} {A B : Option Addr} {n c q j d : Nat} {l : List It} (h : Cqs w X e A n c q B j d l) : X.cell? ⟨w.heap.size, 5, none⟩ = some (.slice A n c) ∧ X.cell? ⟨q, 5, none⟩ = some (.slice B j d) := ⟨(box6 h.fd.box).2.2.2.2.2, (box6 h.own).2.2.2.2.2⟩
/-- The copy is laid into the result's box. -/
theorem Cqs.fin {w X : World} {e : Ex} {A B : Option Addr} {n c q d : Nat} {l : List It} (h : Cqs w X e A n c q B n d l) :
    BoxS (set6 X (w.heap.size + 1) (.int .u8 (e.k : Int)) (.int .u8 (e.o : Int)) (.int .u8 (e.t : Int)) (.int .i32 e.n) (.string (strOf e.s)) (.slice B n d)) (w.heap.size + 1) 27 (exC e B n d)
    ∧ TrN (set6 X (w.heap.size + 1) (.int .u8 (e.k : Int)) (.int .u8 (e.o : Int)) (.int .u8 (e.t : Int)) (.int .i32 e.n) (.string (strOf e.s)) (.slice B n d)) (fun k => w.heap.size ≤ k) B d (l.map It.e)
    ∧ Below w.heap.size w (set6 X (w.heap.size + 1) (.int .u8 (e.k : Int)) (.int .u8 (e.o : Int)) (.int .u8 (e.t : Int)) (.int .i32 e.n) (.string (strOf e.s)) (.slice B n d)) := by
  have hq := h.hq
  refine ⟨box6_all _ _ _ _ _ _ h.fd.res, ?_, bset6 h.fd.bel (by omega) _ _ _ _ _ _⟩
  exact (h.row.tr.fr (fr_set6 X (w.heap.size + 1) _ _ _ _ _ _) (fun j _ hj e => by omega)).mono fun j _ hj => by omega
end Go.Proofs.YtimbiobonigdmaaGreatDoor
