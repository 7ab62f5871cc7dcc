/- The laws: FoldKeeps. -/
import Derived.Test.YtimbiobonigdmaaDoorDcl
import Derived.Test.YtimbiobonigdmaaDoorFga
import Derived.Test.YtimbiobonigdmaaDoorNmo
import Derived.Test.YtimbiobonigdmaaDoorVfr
set_option linter.unusedVariables false
set_option linter.unusedSimpArgs false
namespace Go.Proofs.YtimbiobonigdmaaDoor
open Go Go.RowKit L8 L10 L14

/-- What came in, and the box of the first argument. -/
structure K0 (w X : World) (E : Option Addr) (d : Nat) (l : List Sx) (M : Option Addr) (mc : Nat) (more : List Int) (e : Ex) (A : Option Addr) (n c : Nat) : Prop where
  b : Below w.heap.size w X
  t : T10 X
  sp : SxR X E d l
  mv : IwR X M mc more
  tr : TrR X A c e.l
  box : BoxS X w.heap.size 31 (exC e A n c)
theorem K0.step {w X Y : World} {E M A : Option Addr} {d mc n c : Nat} {l : List Sx} {more : List Int} {e : Ex} (h : Hid (K0 w X E d l M mc more e A n c)) (b : Below X.heap.size X Y) : Hid (K0 w Y E d l M mc more e A n c) :=
  Lib.hid ⟨blw h.out.b b, h.out.t.below b, h.out.sp.keep b, h.out.mv.keep b, h.out.tr.keep b, h.out.box.below b⟩
theorem K0.new {w : World} {E M A : Option Addr} {d mc n c : Nat} {l : List Sx} {more : List Int} {e : Ex} (R : TrR w A c e.l) (S : SxR w E d l) (V : IwR w M mc more) (T : T10 w) : Hid (K0 w (w.alloc (.cells (exC e A n c) 31)) E d l M mc more e A n c) :=
  have b := bal (b0 w) (.cells (exC e A n c) 31)
  Lib.hid ⟨b, T.below b, S.keep b, V.keep b, R.keep b, boxS_new w _ _⟩
theorem K0.parts {w v : World} {E M A : Option Addr} {d mc n c : Nat} {l : List Sx} {more : List Int} {e : Ex} (h : Hid (K0 w v E d l M mc more e A n c)) : ∀ y ∈ l, SxN (v.alloc (.cells #[] 51)) (Ob (some ⟨v.heap.size, 0, none⟩)) y := fun y hy => by
  obtain ⟨j, hj, rfl⟩ := List.mem_iff_getElem.1 hy
  obtain ⟨_, _, _, hv⟩ := h.out.sp.rd j hj
  rw [List.getD_eq_getElem?_getD, List.getElem?_eq_getElem hj] at hv
  refine ((hv.n (N := fun b => b < v.heap.size) fun k hk => hk).keep (bal (b0 v) _)).mono fun b _ hb ad e => ?_
  injection e with e
  subst e
  show v.heap.size ≠ b
  omega
def vK (s : Bs) (v : Int) : Sp := valS s (litE 1 v)
/-- What is known in the loop over the names. -/
structure KpL (v0 X : World) (B2 : Option Addr) (d2 : Nat) (ns : List Bs) (l : List Sx) (more : List Int) (Ao : Option Addr) (no co : Nat) (L : List Sx) (j : Nat) : Prop where
  b : Below v0.heap.size v0 X
  own : SxO X v0.heap.size Ao no co L
  eq : L.map Sx.x = l.map Sx.x ++ addK (l.map Sx.x) ns more vK j
  nm : SS X B2 d2 ns
  ob : ∀ ad, B2 = some ad → ns ≠ [] → Ob Ao ad.block
theorem KpL.step {v0 X Y : World} {B2 Ao : Option Addr} {d2 no co j : Nat} {ns : List Bs} {l L : List Sx} {more : List Int} (h : Hid (KpL v0 X B2 d2 ns l more Ao no co L j)) (b : Below X.heap.size X Y) : Hid (KpL v0 Y B2 d2 ns l more Ao no co L j) :=
  Lib.hid ⟨blw h.out.b b, h.out.own.keep b, h.out.eq, h.out.nm.keep b, h.out.ob⟩
theorem KpL.len {v0 X : World} {B2 Ao : Option Addr} {d2 no co j : Nat} {ns : List Bs} {l L : List Sx} {more : List Int} (h : Hid (KpL v0 X B2 d2 ns l more Ao no co L j)) : no ≤ l.length + more.length := by
  have h1 := h.out.own.len
  have h2 := congrArg List.length h.out.eq
  rw [List.length_append, List.length_map, List.length_map] at h2
  have := (addK_len (l.map Sx.x) ns more vK j).1
  omega
theorem KpL.skip {v0 X : World} {B2 Ao : Option Addr} {d2 no co j : Nat} {ns : List Bs} {l L : List Sx} {more : List Int} (h : Hid (KpL v0 X B2 d2 ns l more Ao no co L j)) (hn : ¬ (j < more.length ∧ decl (l.map Sx.x) (ns.getD j []) = false)) : Hid (KpL v0 X B2 d2 ns l more Ao no co L (j + 1)) :=
  Lib.hid ⟨h.out.b, h.out.own, by rw [addK, if_neg hn]; exact h.out.eq, h.out.nm, h.out.ob⟩
theorem KpL.app {v0 X Y : World} {B2 Ao A2 : Option Addr} {d2 no co c2 j : Nat} {ns : List Bs} {l L : List Sx} {more : List Int} {y : Sx} (h : Hid (KpL v0 X B2 d2 ns l more Ao no co L j)) (hn : j < more.length ∧ decl (l.map Sx.x) (ns.getD j []) = false) (hy : y.x = vK (ns.getD j []) (more.getD j 0))
    (o : SxO Y v0.heap.size A2 (no + 1) c2 (L ++ [y])) (g : X.grownBy Y (Value.slice Ao no co).ownBlock) (hN : ∀ b, b < X.heap.size → Ob Ao b → Ob A2 b) : Hid (KpL v0 Y B2 d2 ns l more A2 (no + 1) c2 (L ++ [y]) (j + 1)) :=
  Lib.hid ⟨SxO.bel h.out.b h.out.own (Nat.le_refl _) g, o, by rw [addK, if_pos hn, List.map_append, h.out.eq, List.append_assoc, ← hy]; rfl, h.out.nm.ob h.out.ob g, fun ad e hne => hN _ (ss_lt h.out.nm ad e hne) (h.out.ob ad e hne)⟩
theorem grt_len {l : List Sp} (h : grtX l = false) : l.length ≤ 200 := by
  unfold grtX at h
  rw [Bool.or_eq_false_iff] at h
  have := of_decide_eq_false h.2
  omega
/-- An environment that is great, or constants that are too many. -/
theorem keeps_great (e : Ex) (A : Option Addr) (n c : Nat) (E : Option Addr) (k d : Nat) (l : List Sx) (hk : l.length = k) (M : Option Addr) (ml mc : Nat) (more : List Int) (w : World) (R : TrR w A c e.l) (S : SxR w E d l) (V : IwR w M mc more) (T : T10 w) (hg : grtX (l.map Sx.x) = true ∨ (grtX (l.map Sx.x) = false ∧ 8 < ml)) :
    Calls Tryd.prog 4 #[exV e A n c, .slice E k d, .slice M ml mc] w fun en w' => en = .returned (.bool true) ∧ Below w.heap.size w w' := by
  have J0 : Hid (K0 w _ E d l M mc more e A n c) := K0.new R S V T
  have CG := Lib.hid (great_any E k d (l.map Sx.x) _ J0.out.sp.sp (by rw [List.length_map]; exact hk))
  have CW := Lib.hid (awake_any _ J0.out.t)
  have HB := Lib.hid J0.out.b
  have HP := box6 J0.out.box
  clear R S V T hk J0
  generalize grtX (l.map Sx.x) = g at *
  dsimp only [exV, exC] at *
  generalize strOf e.s = SE at *
  obtain ⟨p0, p1, p2, p3, p4, p5⟩ := HP
  rcases hg with rfl | ⟨rfl, h8⟩
  · go_enter Tryd.func4, Tryd.ntmps4
    go_wp2_with (first
      | (go_at_call 12; (with_reducible refine (CG.out).mono ?_); rintro e1 w1 ⟨rfl, rfl⟩)
      | (go_at_call 11; (with_reducible refine (CW.out).mono ?_); rintro e1 w1 ⟨rfl, b1⟩; have H1 := Lib.hid (blw HB.out b1); clear b1))
    go_ret
    exact ⟨rfl, H1.out⟩
  · have h8' : (8 : Int) < (ml : Int) := by omega
    go_enter Tryd.func4, Tryd.ntmps4
    go_wp2_with (first
      | (go_at_call 12; (with_reducible refine (CG.out).mono ?_); rintro e1 w1 ⟨rfl, rfl⟩)
      | (go_at_call 11; (with_reducible refine (CW.out).mono ?_); rintro e1 w1 ⟨rfl, b1⟩; have H1 := Lib.hid (blw HB.out b1); clear b1))
    go_ret
    exact ⟨rfl, H1.out⟩
set_option maxRecDepth 100000 in
set_option maxHeartbeats 8000000 in
/-- An expression that is not valid. -/
theorem keeps_bad (e : Ex) (A : Option Addr) (n c : Nat) (hn : e.l.length = n) (ok : OKe e) (E : Option Addr) (k d : Nat) (l : List Sx) (hk : l.length = k) (M : Option Addr) (ml mc : Nat) (more : List Int) (w : World) (R : TrR w A c e.l) (S : SxR w E d l) (V : IwR w M mc more) (T : T10 w) (hg : grtX (l.map Sx.x) = false) (h8 : ml ≤ 8) (hm : mayE e = false) :
    Calls Tryd.prog 4 #[exV e A n c, .slice E k d, .slice M ml mc] w fun en w' => en = .returned (.bool true) ∧ Below w.heap.size w w' := by
  have hk2 := grt_len hg
  rw [List.length_map, hk] at hk2
  have J0 : Hid (K0 w _ E d l M mc more e A n c) := K0.new R S V T
  have CG := great_any E k d (l.map Sx.x) _ J0.out.sp.sp (by rw [List.length_map]; exact hk)
  rw [hg] at CG
  have CG := Lib.hid CG
  have CF := Lib.hid (fold_bad (Ask.mk (k := k) J0.out.tr hn ok J0.out.sp.sp (by rw [List.length_map]; exact hk) (by omega) J0.out.t) hm)
  have CM := Lib.hid fun X (J : K0 w X E d l M mc more e A n c) => PMayX_any e A n c X J.tr hn ok J.t
  rw [hm] at CM
  have EB := Lib.hid fun X (J : Hid (K0 w X E d l M mc more e A n c)) => box6 J.out.box
  have HP := box6 J0.out.box
  have h8' : ¬ (8 : Int) < (ml : Int) := by omega
  clear R S V T hk hg hn ok hm
  dsimp only [exV, exC] at *
  generalize strOf e.s = SE at *
  obtain ⟨p0, p1, p2, p3, p4, p5⟩ := HP
  go_enter Tryd.func4, Tryd.ntmps4
  go_wp2_with (first
    | (go_at_call 12; (with_reducible refine (CG.out).mono ?_); rintro e1 w1 ⟨rfl, rfl⟩)
    | (go_at_call 13; (with_reducible refine (CF.out).mono ?_); rintro e1 w1 ⟨B, f, rfl, b1⟩; have b2 := bal b1 (.cells #[.int .u8 0, .int .u8 0, .int .u8 0, .int .i32 0, .string ⟨#[]⟩, .slice B 0 f] 31); have J1 := K0.step J0 b2; clear b1 b2; clear p0 p1 p2 p3 p4 p5; obtain ⟨p0, p1, p2, p3, p4, p5⟩ := EB.out _ J1)
    | (go_at_call 14; (with_reducible refine (CM.out _ J1.out).mono ?_); rintro e1 w2 ⟨rfl, b1⟩; have J2 := K0.step J1 b1; clear b1)
    | (go_at_call 11; (with_reducible refine (awake_any _ J2.out.t).mono ?_); rintro e1 w3 ⟨rfl, b1⟩; have H3 := Lib.hid (blw J2.out.b b1); clear b1))
  go_ret
  exact ⟨rfl, H3.out⟩
end Go.Proofs.YtimbiobonigdmaaDoor
