/- ExprWrites: its walk; what the laws' worlds keep. -/
import Derived.Deep.CutRange
import Derived.Deep.RegionHeld3
import Derived.Test.YtplcmcealeeppaaGreatDoorM20
import Derived.Test.YtplcmcealeeppaaGreatDoorM21
import Derived.Test.YtplcmcealeeppaaGreatDoorM04
import Derived.Test.YtplcmcealeeppaaGreatDoorM17
import Derived.Test.YtplcmcealeeppaaGreatDoorM18
set_option linter.unusedVariables false
set_option linter.unusedSimpArgs false
set_option linter.unusedVariables false
set_option linter.unusedSimpArgs false
namespace Go.Proofs.YtplcmcealeeppaaGreatDoor
open Go Go.RowKit L8 L10

theorem TrR.rng {w : World} {A : Option Addr} {c : Nat} {l : List Ex} (h : TrR w A c l) : rngL l = true := by
  induction h with
  | @mk A c l As cs le mx ok row sub ih => exact rngL_of l fun j hj => rngE_of (ok j hj).2.2.2.1 (ok j hj).2.2.2.2.1 (ih j hj)
theorem rng_of {w : World} {A : Option Addr} {c : Nat} {e : Ex} (h : TrR w A c e.l) (ok : OKe e) : rngE e = true := rngE_of ok.2.2.2.1 ok.2.2.2.2.1 h.rng
theorem toks_tm {e : Ex} (h : rngE e = true) : ∀ t ∈ (toksX e).1, TM t := by
  unfold toksX
  cases hm : mayE e with
  | true => rw [if_pos rfl]; exact tk_tm e (may_all hm).1 h
  | false => rw [if_neg (by decide)]; intro t ht; cases ht
theorem okl_tm {l : List Tk} (h : ∀ t ∈ l, TM t) : OKL l := fun t ht => may_okx (h t ht).1 (h t ht).2.2
theorem toks_len {e : Ex} : (toksX e).1.length ≤ 1280 := by
  unfold toksX
  cases hm : mayE e with
  | true => rw [if_pos rfl]; have h := may_all hm; have := tk_bound e h.1; show (tkE e).length ≤ 1280; omega
  | false => rw [if_neg (by decide)]; simp
/-- A world in which the law's tree lies in its box. -/
structure TS (w X : World) (e : Ex) (A : Option Addr) (n c : Nat) : Prop where
  s : S10 w X
  ex : BoxS X w.heap.size 27 (exC e A n c)
  tr : TrR X A c e.l
theorem TS.step {w X Y : World} {e : Ex} {A : Option Addr} {n c : Nat} (h : TS w X e A n c) (b : Below X.heap.size X Y) : TS w Y e A n c := ⟨h.s.step b, h.ex.below b, h.tr.keep b⟩
theorem TS.new {w : World} {e : Ex} {A : Option Addr} {n c : Nat} (h1 : W1.Tab w) (h2 : T10 w) (R : TrR w A c e.l) : TS w (w.alloc (.cells (exC e A n c) 27)) e A n c := ⟨S10.of h1 h2 (bal (b0 w) _), boxS_new w _ _, R.keep (bal (b0 w) _)⟩
theorem TS.cells {w X : World} {e : Ex} {A : Option Addr} {n c : Nat} (h : TS w X e A n c) : X.cell? ⟨w.heap.size, 0, none⟩ = some (.int .u8 (e.k : Int)) ∧ X.cell? ⟨w.heap.size, 1, none⟩ = some (.int .u8 (e.o : Int)) ∧ X.cell? ⟨w.heap.size, 2, none⟩ = some (.int .u8 (e.t : Int)) ∧ X.cell? ⟨w.heap.size, 3, none⟩ = some (.int .i32 e.n) ∧ X.cell? ⟨w.heap.size, 4, none⟩ = some (.string (strOf e.s)) ∧ X.cell? ⟨w.heap.size, 5, none⟩ = some (.slice A n c) := box6 h.ex
theorem TS.toks {w X : World} {e : Ex} {A : Option Addr} {n c : Nat} (h : TS w X e A n c) (hn : e.l.length = n) (ok : OKe e) : Calls Tryz.prog 22 #[exV e A n c] X fun en w' => ∃ B d, en = .returned (.tuple #[.slice B (toksX e).1.length d, .int .i64 (toksX e).2]) ∧ RR w' B d (toksX e).1 ∧ Below X.heap.size X w' :=
  (pc.toks e A n c X h.tr hn ok h.s.t10).mono fun en w' ⟨B, d, h1, h2, h3⟩ => ⟨B, d, h1, h2.rr (okl_tm (toks_tm (rng_of h.tr ok))), h3⟩
theorem works_at {w X : World} (h : S10 w X) : Calls Tryz.prog 21 #[] X fun en w' => en = .returned (.bool true) ∧ Below X.heap.size X w' := works_any X h.tab h.t10
structure SW (w X : World) (B : Option Addr) (d : Nat) (B2 : Option Addr) (d2 : Nat) (l : List Tk) : Prop where
  s : S10 w X
  r1 : RR X B d l
  r2 : RR X B2 d2 l
theorem SW.step {w X Y : World} {B B2 : Option Addr} {d d2 : Nat} {l : List Tk} (h : SW w X B d B2 d2 l) (b : Below X.heap.size X Y) : SW w Y B d B2 d2 l := ⟨h.s.step b, h.r1.keep b, h.r2.keep b⟩
set_option maxRecDepth 100000 in
set_option maxHeartbeats 16000000 in
theorem walkExprWrites (a0 : Ex) (A : Option Addr) (n c : Nat) (hn : a0.l.length = n) (ok : OKe a0) (w : World) (R : TrR w A c a0.l) (h10 : T10 w) (hT : W1.Tab w) :
    Calls Tryz.prog 4 #[exV a0 A n c] w fun e w' => e = .returned (.bool true) ∧ Below w.heap.size w w' := by
  have HV := Lib.hid (TS.new (n := n) hT h10 R)
  have C1 := Lib.hid (fun (X : World) (h : TS w X a0 A n c) => h.toks hn ok)
  have C2 : Hid (∀ X, TS w X a0 A n c → Calls Tryz.prog 23 #[exV a0 A n c] X fun en w' => ∃ B d, en = .returned (.tuple #[.slice B (toksX a0).1.length d, .int .i64 (toksX a0).2]) ∧ RR w' B d (toksX a0).1 ∧ Below X.heap.size X w') := Lib.hid fun X h => (RToksX_any a0 A n c X h.tr hn ok).mono fun en w' ⟨B, d, h1, h2, h3, h4⟩ => ⟨B, d, h1, h2.rr h3, h4⟩
  have HZ := Lib.hid (fun (j : Nat) (h : j < (toksX a0).1.length) => (toks_tm (rng_of R ok) _ (getD_mem h)).2.1)
  have HC := Lib.hid (fun (X : World) (h : TS w X a0 A n c) => h.cells)
  have hlen : (toksX a0).1.length ≤ 1280 := toks_len
  have CW := Lib.hid (fun (X : World) (h : S10 w X) => works_at h)
  have CS := Lib.hid (fun (X : World) (B B2 : Option Addr) (d d2 : Nat) (h : SW w X B d B2 d2 (toksX a0).1) => show Calls Tryz.prog 24 #[.slice B (toksX a0).1.length d, .slice B2 (toksX a0).1.length d2] X (fun e w' => e = .returned (.bool true) ∧ Below X.heap.size X w') from by
    have := RSame_any h.r1 h.r2 rfl rfl
    rwa [decide_eq_true rfl] at this)
  have q1 : ((toksX a0).2 == (toksX a0).2) = true := by simp
  clear R hn ok h10 hT
  generalize hL : (toksX a0).1 = L at *
  generalize (toksX a0).2 = er at *
  clear hL
  generalize hN : L.length = N at *
  have HN := Lib.hid hN
  clear hN
  dsimp only [exV, exC] at *
  generalize strOf a0.s = S at *
  go_enter Tryz.func4, Tryz.ntmps4
  go_wp2_with (first
    | (go_at_call 22; (with_reducible refine (C1.out _ HV.out).mono ?_); rintro e v1 ⟨B1, d1, rfl, r, b⟩; have H1 := Lib.hid (HV.out.step b); have R1 := Lib.hid r; clear b r; obtain ⟨z0, z1, z2, z3, z4, z5⟩ := HC.out _ H1.out)
    | (go_at_call 23; (with_reducible refine (C2.out _ H1.out).mono ?_); rintro e v2 ⟨B2, d2, rfl, r, b⟩; have H2 : Hid (SW w v2 B1 d1 B2 d2 L) := Lib.hid ⟨(H1.out.step b).s, R1.out.keep b, r⟩; clear b r))
  clear C1 C2 HC HV H1 R1
  go_loopw [20] (fun i wr => ∃ j : Nat, j ≤ N ∧ i = .int .i64 j ∧ Hid (SW w wr B1 d1 B2 d2 L)) (fun i _ => N - (intOf i).toNat)
  case atStart => exact ⟨0, Nat.zero_le _, rfl, H2⟩
  case round =>
    obtain ⟨j, hj, rfl, H⟩ := hrel
    have hj0 : (0 : Int) ≤ (j : Int) := by omega
    by_cases hlt : (j : Int) < (N : Int)
    · obtain ⟨ad, rfl, x0, x1, x2, x3⟩ := H.out.r1.rd j (by have := HN.out; omega)
      rw [HZ.out j (by omega)] at x1
      clear x0 x2 x3
      go_wp2
      go_roundw
      case rel => exact ⟨j + 1, by omega, by go_num, H⟩
      case measure => simp [intOf]; omega
    · obtain rfl : j = N := by omega
      go_wp2_with (first
        | (go_at_call 24; (with_reducible refine (CS.out _ _ _ _ _ H.out).mono ?_); rintro e v3 ⟨rfl, b⟩; have H3 := Lib.hid (H.out.s.step b); clear b)
        | (go_at_call 21; (with_reducible refine (CW.out _ H3.out).mono ?_); rintro e v4 ⟨rfl, b⟩; have H4 := Lib.hid (H3.out.step b); clear b))
      go_ret
      exact ⟨rfl, H4.out.bel⟩
end Go.Proofs.YtplcmcealeeppaaGreatDoor
/- The laws' small functions: the word of a dyadic operator, equal lists of strings. -/
set_option linter.unusedVariables false
set_option linter.unusedSimpArgs false
namespace Go.Proofs.YtplcmcealeeppaaGreatDoor
open Go Go.RowKit L8 L10

def dyO (x : Bs) : Bool := (List.range 23).any fun o => decide (1 ≤ o) && decide (x = opW o)
theorem dyO_yes {x : Bs} {o : Nat} (h1 : 1 ≤ o) (h2 : o < 23) (h : x = opW o) : dyO x = true := by
  unfold dyO
  rw [List.any_eq_true]
  exact ⟨o, List.mem_range.mpr h2, by rw [decide_eq_true h1, decide_eq_true h]; rfl⟩
theorem dyO_no {x : Bs} (h : ∀ i, 1 ≤ i → i < 23 → x ≠ opW i) : dyO x = false := by
  cases e : dyO x with
  | false => rfl
  | true =>
    unfold dyO at e
    obtain ⟨o, h2, h3⟩ := List.any_eq_true.mp e
    rw [Bool.and_eq_true] at h3
    exact absurd (of_decide_eq_true h3.2) (h o (of_decide_eq_true h3.1) (List.mem_range.mp h2))
def dyB (t : Tk) : Bool := (decide (t.k = 5) || decide (t.k = 2)) && dyO t.tx
theorem noc_of {x : Tk} {r : List Tk} (h : dyB x = false) (hb : x.tx ≠ [91]) : noc (x :: r) := by
  have e : atB (x :: r) 0 = if may x = true then base x else z0 := rfl
  unfold noc
  rw [e]
  cases hm : may x with
  | false => rw [if_neg (by decide)]; exact ⟨by decide, find_z⟩
  | true =>
    rw [if_pos rfl]
    refine ⟨fun h2 => hb (show x.tx = [91] from congrArg Tk.tx h2), find_none fun o h1 h2 h3 => ?_⟩
    have hk := (mk_all (o := o) h1 (by omega)).2.2.1
    have hx : x.k = (mk o).k := (show (base x).k = _ from congrArg Tk.k h3)
    have ht : x.tx = (mk o).tx := (show (base x).tx = _ from congrArg Tk.tx h3)
    have hw : (mk o).tx = opW o := by unfold mk; split <;> rfl
    unfold dyB at h
    rw [dyO_yes h1 (by omega) (ht.trans hw), Bool.and_true] at h
    simp at h
    omega
theorem noc_nil : noc [] := by
  unfold noc
  have e : atB [] 0 = z0 := at_end (by simp)
  rw [e]
  exact ⟨by decide, find_z⟩
set_option maxRecDepth 100000 in
set_option maxHeartbeats 4000000 in
theorem dyadic_any (P : Pc) (t : Tk) (w : World) (h10 : T10 w) : Calls Tryz.prog 25 #[rwV t] w fun e w' => e = .returned (.bool (dyB t)) ∧ Below w.heap.size w w' := by
  have HX : Hid (∀ X, Below (w.alloc (.cells #[.int .u8 (t.k : Int), .int .i64 t.a, .string (strOf t.tx), .int .i32 t.n] 47)).heap.size (w.alloc (.cells #[.int .u8 (t.k : Int), .int .i64 t.a, .string (strOf t.tx), .int .i32 t.n] 47)) X → (Below w.heap.size w X ∧ T10 X) ∧ BoxS X w.heap.size 47 #[.int .u8 (t.k : Int), .int .i64 t.a, .string (strOf t.tx), .int .i32 t.n]) := Lib.hid fun X b => ⟨⟨blw (bal (b0 w) _) b, h10.below (blw (bal (b0 w) _) b)⟩, (boxS_new w _ _).below b⟩
  have CW := Lib.hid (fun (o : Nat) (ho : o < 256) (W : World) (h : T10 W) => P.word o ho W h)
  have q5 : ((t.k : Int) == 5) = decide (t.k = 5) := nat_eq10 _ 5
  have q2 : ((t.k : Int) == 2) = decide (t.k = 2) := nat_eq10 _ 2
  have hs := Lib.hid (fun (o : Nat) => eqS t.tx (opW o))
  have hd : dyB t = ((decide (t.k = 5) || decide (t.k = 2)) && dyO t.tx) := rfl
  have HYes := Lib.hid (fun (o : Nat) (h1 : 1 ≤ o) (h2 : o < 23) (h : t.tx = opW o) => dyO_yes h1 h2 h)
  have HNo := Lib.hid (fun (h : ∀ i, 1 ≤ i → i < 23 → t.tx ≠ opW i) => dyO_no h)
  rw [hd]
  clear hd h10
  generalize dyO t.tx = D at *
  generalize decide (t.k = 5) = b5 at *
  generalize decide (t.k = 2) = b2 at *
  dsimp only [rwV] at *
  generalize strOf t.tx = S at *
  cases b5 <;> cases b2
  all_goals simp only [Bool.or_true, Bool.or_false, Bool.true_or, Bool.false_or, Bool.true_and, Bool.false_and]
  · go_enter Tryz.func25, Tryz.ntmps25
    go_wp2
    generalize hV : w.alloc (.cells #[.int .u8 (t.k : Int), .int .i64 t.a, .string S, .int .i32 t.n] 47) = V at *
    clear hV
    go_loopw [3] (fun v wr => ∃ j : Nat, 1 ≤ j ∧ j ≤ 23 ∧ v = .int .u8 (j : Int) ∧ Hid (Below V.heap.size V wr ∧ True)) (fun v _ => 23 - (intOf v).toNat)
    case atStart => exact ⟨1, Nat.le_refl _, by omega, rfl, Lib.hid ⟨b0 V, trivial⟩⟩
    case round =>
      obtain ⟨j, hj1, hj, rfl, H⟩ := hrel
      have hj0 : (1 : Int) ≤ (j : Int) := by omega
      have hj23 : (j : Int) ≤ 23 := by omega
      have HB := Lib.hid H.out.1
      have HR := Lib.hid H.out.2
      clear H
      by_cases hlt : (j : Int) ≤ 22
      · have C := Lib.hid (CW.out j (by omega) wr (HX.out _ HB.out).1.2)
        have q := hs.out j
        generalize strOf (opW j) = SO at *
        generalize isOp j = bo at *
        clear q
        go_wp2_with (go_at_call 10; (with_reducible refine (C.out).mono ?_); rintro e1 w2 ⟨rfl, b⟩; have H2 := Lib.hid (blw HB.out b); clear b; obtain ⟨⟨x0, x1, x2, x3⟩, _⟩ := box4 (HX.out _ H2.out).2)
        go_roundw
        case rel => exact ⟨j + 1, by omega, by omega, by go_num, Lib.hid ⟨H2.out, trivial⟩⟩
        case measure => simp [intOf]; omega
      · obtain rfl : j = 23 := by omega
        go_wp2
        go_ret
        exact ⟨rfl, (HX.out _ HB.out).1.1⟩
  · go_enter Tryz.func25, Tryz.ntmps25
    go_wp2
    generalize hV : w.alloc (.cells #[.int .u8 (t.k : Int), .int .i64 t.a, .string S, .int .i32 t.n] 47) = V at *
    clear hV
    go_loopw [3] (fun v wr => ∃ j : Nat, 1 ≤ j ∧ j ≤ 23 ∧ v = .int .u8 (j : Int) ∧ Hid (Below V.heap.size V wr ∧ ∀ i, 1 ≤ i → i < j → t.tx ≠ opW i)) (fun v _ => 23 - (intOf v).toNat)
    case atStart => exact ⟨1, Nat.le_refl _, by omega, rfl, Lib.hid ⟨b0 V, fun i h1 h2 => absurd h2 (by omega)⟩⟩
    case round =>
      obtain ⟨j, hj1, hj, rfl, H⟩ := hrel
      have hj0 : (1 : Int) ≤ (j : Int) := by omega
      have hj23 : (j : Int) ≤ 23 := by omega
      have HB := Lib.hid H.out.1
      have HR := Lib.hid H.out.2
      clear H
      by_cases hlt : (j : Int) ≤ 22
      · have C := Lib.hid (CW.out j (by omega) wr (HX.out _ HB.out).1.2)
        have q := hs.out j
        by_cases he : t.tx = opW j
        · have HE := Lib.hid (HYes.out j hj1 (by omega) he)
          rw [decide_eq_true he] at q
          clear he
          generalize strOf (opW j) = SO at *
          generalize isOp j = bo at *
          go_wp2_with (go_at_call 10; (with_reducible refine (C.out).mono ?_); rintro e1 w2 ⟨rfl, b⟩; have H2 := Lib.hid (blw HB.out b); clear b; obtain ⟨⟨x0, x1, x2, x3⟩, _⟩ := box4 (HX.out _ H2.out).2)
          go_ret
          rw [HE.out]
          exact ⟨rfl, (HX.out _ H2.out).1.1⟩
        · have HY := Lib.hid (show ∀ i, 1 ≤ i → i < j + 1 → t.tx ≠ opW i from fun i h1 h2 => if h3 : i < j then HR.out i h1 h3 else by rw [show i = j by omega]; exact he)
          rw [decide_eq_false he] at q
          clear he
          generalize strOf (opW j) = SO at *
          generalize isOp j = bo at *
          go_wp2_with (go_at_call 10; (with_reducible refine (C.out).mono ?_); rintro e1 w2 ⟨rfl, b⟩; have H2 := Lib.hid (blw HB.out b); clear b; obtain ⟨⟨x0, x1, x2, x3⟩, _⟩ := box4 (HX.out _ H2.out).2)
          go_roundw
          case rel => exact ⟨j + 1, by omega, by omega, by go_num, Lib.hid ⟨H2.out, HY.out⟩⟩
          case measure => simp [intOf]; omega
      · obtain rfl : j = 23 := by omega
        have HE := Lib.hid (HNo.out HR.out)
        go_wp2
        go_ret
        rw [HE.out]
        exact ⟨rfl, (HX.out _ HB.out).1.1⟩
  · go_enter Tryz.func25, Tryz.ntmps25
    go_wp2
    generalize hV : w.alloc (.cells #[.int .u8 (t.k : Int), .int .i64 t.a, .string S, .int .i32 t.n] 47) = V at *
    clear hV
    go_loopw [3] (fun v wr => ∃ j : Nat, 1 ≤ j ∧ j ≤ 23 ∧ v = .int .u8 (j : Int) ∧ Hid (Below V.heap.size V wr ∧ ∀ i, 1 ≤ i → i < j → t.tx ≠ opW i)) (fun v _ => 23 - (intOf v).toNat)
    case atStart => exact ⟨1, Nat.le_refl _, by omega, rfl, Lib.hid ⟨b0 V, fun i h1 h2 => absurd h2 (by omega)⟩⟩
    case round =>
      obtain ⟨j, hj1, hj, rfl, H⟩ := hrel
      have hj0 : (1 : Int) ≤ (j : Int) := by omega
      have hj23 : (j : Int) ≤ 23 := by omega
      have HB := Lib.hid H.out.1
      have HR := Lib.hid H.out.2
      clear H
      by_cases hlt : (j : Int) ≤ 22
      · have C := Lib.hid (CW.out j (by omega) wr (HX.out _ HB.out).1.2)
        have q := hs.out j
        by_cases he : t.tx = opW j
        · have HE := Lib.hid (HYes.out j hj1 (by omega) he)
          rw [decide_eq_true he] at q
          clear he
          generalize strOf (opW j) = SO at *
          generalize isOp j = bo at *
          go_wp2_with (go_at_call 10; (with_reducible refine (C.out).mono ?_); rintro e1 w2 ⟨rfl, b⟩; have H2 := Lib.hid (blw HB.out b); clear b; obtain ⟨⟨x0, x1, x2, x3⟩, _⟩ := box4 (HX.out _ H2.out).2)
          go_ret
          rw [HE.out]
          exact ⟨rfl, (HX.out _ H2.out).1.1⟩
        · have HY := Lib.hid (show ∀ i, 1 ≤ i → i < j + 1 → t.tx ≠ opW i from fun i h1 h2 => if h3 : i < j then HR.out i h1 h3 else by rw [show i = j by omega]; exact he)
          rw [decide_eq_false he] at q
          clear he
          generalize strOf (opW j) = SO at *
          generalize isOp j = bo at *
          go_wp2_with (go_at_call 10; (with_reducible refine (C.out).mono ?_); rintro e1 w2 ⟨rfl, b⟩; have H2 := Lib.hid (blw HB.out b); clear b; obtain ⟨⟨x0, x1, x2, x3⟩, _⟩ := box4 (HX.out _ H2.out).2)
          go_roundw
          case rel => exact ⟨j + 1, by omega, by omega, by go_num, Lib.hid ⟨H2.out, HY.out⟩⟩
          case measure => simp [intOf]; omega
      · obtain rfl : j = 23 := by omega
        have HE := Lib.hid (HNo.out HR.out)
        go_wp2
        go_ret
        rw [HE.out]
        exact ⟨rfl, (HX.out _ HB.out).1.1⟩
  · go_enter Tryz.func25, Tryz.ntmps25
    go_wp2
    generalize hV : w.alloc (.cells #[.int .u8 (t.k : Int), .int .i64 t.a, .string S, .int .i32 t.n] 47) = V at *
    clear hV
    go_loopw [3] (fun v wr => ∃ j : Nat, 1 ≤ j ∧ j ≤ 23 ∧ v = .int .u8 (j : Int) ∧ Hid (Below V.heap.size V wr ∧ ∀ i, 1 ≤ i → i < j → t.tx ≠ opW i)) (fun v _ => 23 - (intOf v).toNat)
    case atStart => exact ⟨1, Nat.le_refl _, by omega, rfl, Lib.hid ⟨b0 V, fun i h1 h2 => absurd h2 (by omega)⟩⟩
    case round =>
      obtain ⟨j, hj1, hj, rfl, H⟩ := hrel
      have hj0 : (1 : Int) ≤ (j : Int) := by omega
      have hj23 : (j : Int) ≤ 23 := by omega
      have HB := Lib.hid H.out.1
      have HR := Lib.hid H.out.2
      clear H
      by_cases hlt : (j : Int) ≤ 22
      · have C := Lib.hid (CW.out j (by omega) wr (HX.out _ HB.out).1.2)
        have q := hs.out j
        by_cases he : t.tx = opW j
        · have HE := Lib.hid (HYes.out j hj1 (by omega) he)
          rw [decide_eq_true he] at q
          clear he
          generalize strOf (opW j) = SO at *
          generalize isOp j = bo at *
          go_wp2_with (go_at_call 10; (with_reducible refine (C.out).mono ?_); rintro e1 w2 ⟨rfl, b⟩; have H2 := Lib.hid (blw HB.out b); clear b; obtain ⟨⟨x0, x1, x2, x3⟩, _⟩ := box4 (HX.out _ H2.out).2)
          go_ret
          rw [HE.out]
          exact ⟨rfl, (HX.out _ H2.out).1.1⟩
        · have HY := Lib.hid (show ∀ i, 1 ≤ i → i < j + 1 → t.tx ≠ opW i from fun i h1 h2 => if h3 : i < j then HR.out i h1 h3 else by rw [show i = j by omega]; exact he)
          rw [decide_eq_false he] at q
          clear he
          generalize strOf (opW j) = SO at *
          generalize isOp j = bo at *
          go_wp2_with (go_at_call 10; (with_reducible refine (C.out).mono ?_); rintro e1 w2 ⟨rfl, b⟩; have H2 := Lib.hid (blw HB.out b); clear b; obtain ⟨⟨x0, x1, x2, x3⟩, _⟩ := box4 (HX.out _ H2.out).2)
          go_roundw
          case rel => exact ⟨j + 1, by omega, by omega, by go_num, Lib.hid ⟨H2.out, HY.out⟩⟩
          case measure => simp [intOf]; omega
      · obtain rfl : j = 23 := by omega
        have HE := Lib.hid (HNo.out HR.out)
        go_wp2
        go_ret
        rw [HE.out]
        exact ⟨rfl, (HX.out _ HB.out).1.1⟩
set_option maxRecDepth 100000 in
theorem texts_any {A B : Option Addr} {c d m n : Nat} {xs ys : List Bs} {w : World} (R : SS w A c xs) (Q : SS w B d ys) (hm : xs.length = m) (hn : ys.length = n) : Calls Tryz.prog 16 #[.slice A m c, .slice B n d] w fun e w' => e = .returned (.bool (decide (xs = ys))) ∧ Below w.heap.size w w' := by
  have HR := Lib.hid R
  have HQ := Lib.hid Q
  have HM := Lib.hid hm
  have HN := Lib.hid hn
  have hmx : m ≤ maxLen := by have := R.le; have := R.mx; omega
  unfold maxLen at hmx
  by_cases hl : m = n
  · subst hl
    have q : ((m : Int) != (m : Int)) = false := by simp
    clear R Q hm hn
    go_enter Tryz.func16, Tryz.ntmps16
    go_wp2
    go_loopw [13] (fun i wr => ∃ k : Nat, k ≤ m ∧ i = .int .i64 k ∧ Hid (Below w.heap.size w wr ∧ ∀ j, j < k → xs.getD j [] = ys.getD j [])) (fun i _ => m - (intOf i).toNat)
    case atStart => exact ⟨0, Nat.zero_le _, rfl, Lib.hid ⟨b0 w, fun j hj => absurd hj (by omega)⟩⟩
    case round =>
      obtain ⟨k, hk, rfl, H⟩ := hrel
      have hk0 : (0 : Int) ≤ (k : Int) := by omega
      by_cases hlt : (k : Int) < (m : Int)
      · obtain ⟨ad, rfl, c0⟩ := (HR.out.keep H.out.1).rd k (by have := HM.out; omega)
        obtain ⟨ae, rfl, d0⟩ := (HQ.out.keep H.out.1).rd k (by have := HN.out; omega)
        have qs := eqS (xs.getD k []) (ys.getD k [])
        have HB := Lib.hid H.out.1
        by_cases hv : xs.getD k [] = ys.getD k []
        · have HY := Lib.hid (show ∀ j, j < k + 1 → xs.getD j [] = ys.getD j [] from fun j hj => if h : j < k then H.out.2 j h else by rw [show j = k by omega]; exact hv)
          rw [decide_eq_true hv] at qs
          clear hv H
          generalize strOf (xs.getD k []) = S at *
          generalize strOf (ys.getD k []) = S' at *
          go_wp2
          go_quiet (fail)
          have HD := Lib.hid (And.intro (bdrew HB.out nq) HY.out)
          clear HB HY c0 d0
          generalize wr.drewN nq = W at *
          go_wp2
          go_roundw
          case rel => exact ⟨k + 1, by omega, by go_num, HD⟩
          case measure => simp [intOf]; omega
        · have HE := Lib.hid (show decide (xs = ys) = false from decide_eq_false (fun e => hv (by rw [e])))
          rw [decide_eq_false hv] at qs
          clear hv H
          generalize strOf (xs.getD k []) = S at *
          generalize strOf (ys.getD k []) = S' at *
          go_wp2
          go_quiet (fail)
          have HD := Lib.hid (bdrew HB.out nq)
          clear HB c0 d0
          generalize wr.drewN nq = W at *
          go_wp2
          go_ret
          rw [HE.out]
          exact ⟨rfl, HD.out⟩
      · obtain rfl : k = m := by omega
        have HE := Lib.hid (show decide (xs = ys) = true from decide_eq_true (by
          apply List.ext_getElem?
          intro i
          have h1 := HM.out
          have h2 := HN.out
          by_cases hi : i < k
          · have := H.out.2 i hi
            have e1 : xs[i]? = some (xs.getD i []) := by simp [show i < xs.length by omega]
            have e2 : ys[i]? = some (ys.getD i []) := by simp [show i < ys.length by omega]
            rw [e1, e2, this]
          · rw [List.getElem?_eq_none (by omega), List.getElem?_eq_none (by omega)]))
        have HB := Lib.hid H.out.1
        clear H
        go_wp2
        go_ret
        rw [HE.out]
        exact ⟨rfl, HB.out⟩
  · have HE := Lib.hid (show decide (xs = ys) = false from decide_eq_false (fun e => hl (by rw [← hm, ← hn, e])))
    have q : ((m : Int) != (n : Int)) = true := by simp; omega
    clear hm hn hl R Q
    go_enter Tryz.func16, Tryz.ntmps16
    go_wp2
    go_ret
    rw [HE.out]
    exact ⟨rfl, b0 w⟩
end Go.Proofs.YtplcmcealeeppaaGreatDoor
/- ExprAgain: its walk. -/
set_option linter.unusedVariables false
set_option linter.unusedSimpArgs false
namespace Go.Proofs.YtplcmcealeeppaaGreatDoor
open Go Go.RowKit L8 L10

def IsTx (w : World) (A : Option Addr) (len cap : Nat) : Prop := ∃ rs : List Tk, rs.length = len ∧ RR w A cap rs
theorem cut_tk (A : Option Addr) (m c k : Nat) (h : k ≤ c) (W : World) : (Instr.slice 39 (.slice A m c) none (some (.int .i64 (k : Int))) none).run Tryz.prog W = .ok (.slice A k c) W := by
  have hz : (sizeOf (Tryz.prog.elem 39)).run Tryz.prog W = .ok 4 W := by kernel_rfl
  rw [run_slice_h (P := Tryz.prog) W 39 A m c (by kernel_rfl) .i64 (k : Int) (by omega) (by omega), hz]
  cases A <;> simp [Result.andThen, sliced, Addr.add]
/-- The law's list stays; the trees that were read lie in their boxes. -/
structure AS (w X : World) (A : Option Addr) (c : Nat) (l : List Tk) : Prop where
  s : S10 w X
  rr : RR X A c l
theorem AS.step {w X Y : World} {A : Option Addr} {c : Nat} {l : List Tk} (h : AS w X A c l) (b : Below X.heap.size X Y) : AS w Y A c l := ⟨h.s.step b, h.rr.keep b⟩
structure BX (X : World) (x : Ex) (A : Option Addr) (n c K : Nat) : Prop where
  b : BoxS X K 27 (exC x A n c)
  t : TrR X A c x.l
theorem BX.step {X Y : World} {x : Ex} {A : Option Addr} {n c K : Nat} (h : BX X x A n c K) (b : Below X.heap.size X Y) : BX Y x A n c K := ⟨h.b.below b, h.t.keep b⟩
theorem BX.new {X : World} {x : Ex} {A : Option Addr} {n c : Nat} (t : TrR X A c x.l) : BX (X.alloc (.cells (exC x A n c) 27)) x A n c X.heap.size := ⟨boxS_new X _ _, t.keep (bal (b0 X) _)⟩
theorem BX.cells {X : World} {x : Ex} {A : Option Addr} {n c K : Nat} (h : BX X x A n c K) : X.cell? ⟨K, 0, none⟩ = some (.int .u8 (x.k : Int)) ∧ X.cell? ⟨K, 1, none⟩ = some (.int .u8 (x.o : Int)) ∧ X.cell? ⟨K, 2, none⟩ = some (.int .u8 (x.t : Int)) ∧ X.cell? ⟨K, 3, none⟩ = some (.int .i32 x.n) ∧ X.cell? ⟨K, 4, none⟩ = some (.string (strOf x.s)) ∧ X.cell? ⟨K, 5, none⟩ = some (.slice A n c) := box6 h.b
/-- What Front gives, its parts by name. -/
theorem front_at_w {w X : World} {A : Option Addr} {c m : Nat} {l : List Tk} {x : Ex} {q n : Nat} {er : Int} (h : S10 w X) (R : RR X A c l) (hm : l.length = m) (hs : m ≤ 4000000) (hf : frontX l = (x, q, er)) (hn : x.l.length = n) : Calls Tryz.prog 26 #[.slice A m c] X fun en w' => ∃ B d, en = .returned (.tuple #[exV x B n d, .int .i64 (q : Int), .int .i64 er]) ∧ TrR w' B d x.l ∧ OKe x ∧ Below X.heap.size X w' := by
  have := pc.front l A m c X R hm hs h.t10
  unfold GivesFX at this
  rw [hf] at this
  dsimp only at this
  rwa [hn] at this
set_option maxRecDepth 100000 in
set_option maxHeartbeats 16000000 in
/-- Behind the cut: a list of at most 100 tokens. -/
theorem again_cut (m cap : Nat) (A : Option Addr) (l : List Tk) (hm : l.length = m) (w : World) (R : RR w A cap l) : ∃ K, K ≤ 100 ∧ (l.take 100).length = K ∧ RR w A cap (l.take 100) ∧ K ≤ cap ∧ ((100 : Int) < (m : Int) → K = 100) ∧ (¬ (100 : Int) < (m : Int) → K = m) := by
  refine ⟨(l.take 100).length, by rw [List.length_take]; omega, rfl, R.take 100, ?_, fun h => by rw [List.length_take]; omega, fun h => by rw [List.length_take]; omega⟩
  have := R.le
  rw [List.length_take]
  omega
set_option maxRecDepth 100000 in
set_option maxHeartbeats 16000000 in
theorem walkExprAgain (a0 : Option Addr) (len0 cap0 : Nat) (w : World) (w0 : IsTx w a0 len0 cap0) (h10 : T10 w) (hT : W1.Tab w) :
    Calls Tryz.prog 7 #[.slice a0 len0 cap0] w fun e w' => e = .returned (.bool true) ∧ Below w.heap.size w w' := by
  obtain ⟨l0, hm, R⟩ := w0
  generalize len0 = m at *
  have hmx : m ≤ maxLen := by have := R.le; have := R.mx; omega
  unfold maxLen at hmx
  obtain ⟨K, hK100, hKL, RK, hKc, hK1, hK2⟩ := again_cut m cap0 a0 l0 hm w R
  have HMin : Hid (∀ W, (Instr.slice 39 (.slice a0 m cap0) none (some (.int .i64 (min (m : Int) 100))) none).run Tryz.prog W = .ok (.slice a0 K cap0) W) := Lib.hid fun W => by
    have hk : min (m : Int) 100 = (K : Int) := by
      by_cases h : (100 : Int) < (m : Int)
      · have := hK1 h; omega
      · have := hK2 h; omega
    rw [hk]
    exact cut_tk a0 m cap0 K hKc W
  have CW := Lib.hid (fun (X : World) (h : S10 w X) => works_at h)
  have HA : Hid (AS w w a0 cap0 (l0.take 100)) := Lib.hid ⟨S10.new hT h10, RK⟩
  clear R hm h10 hT RK hK1 hK2
  generalize l0.take 100 = L at *
  have HL := Lib.hid hKL
  clear hKL
  go_enter Tryz.func7, Tryz.ntmps7
  go_upto_region 1 with fail
  go_cut [0] from 14 to 18 (fun t wx => t = .slice a0 K cap0 ∧ wx = w)
  case first =>
    have hc := HMin.out
    go_wp2_with fail
    go_meet
    exact ⟨rfl, rfl⟩
  case rest =>
    obtain ⟨rfl, hw⟩ := hcut
    obtain rfl := hw.symm
    clear HMin
    rcases front_ways L with ⟨x, q, hf, hrd, hmay⟩ | ⟨er, hf, her⟩
    · obtain ⟨hq0, hqK, hNq, hft⟩ := front_again hrd hmay
      have hal := may_all hmay
      obtain ⟨p, rfl⟩ : ∃ p, q = p + 1 := ⟨q - 1, by omega⟩
      have hpK : p + 1 ≤ K := by have := HL.out; omega
      obtain ⟨n, hn⟩ : ∃ n, x.l.length = n := ⟨_, rfl⟩
      obtain ⟨⟨y, k, g⟩, hfl⟩ : ∃ r, frontX (L.take p) = r := ⟨_, rfl⟩
      have hless : g = 0 → k < p + 1 := fun hg => by
        subst hg
        exact front_less (n := p + 1) (by omega) hfl
      have C1 : Hid (∀ X, AS w X a0 cap0 L → Calls Tryz.prog 26 #[.slice a0 K cap0] X fun en w' => ∃ B d, en = .returned (.tuple #[exV x B n d, .int .i64 ((p : Int) + 1), .int .i64 0]) ∧ (TrR w' B d x.l ∧ OKe x) ∧ Below X.heap.size X w') := Lib.hid fun X h => (front_at_w h.s h.rr HL.out (by omega) hf hn).mono fun en w' ⟨B, d, h1, h2, h3, h4⟩ => ⟨B, d, h1, ⟨h2, h3⟩, h4⟩
      have C2 : Hid (∀ X, AS w X a0 cap0 L → Calls Tryz.prog 26 #[.slice a0 (p + 1) cap0] X fun en w' => ∃ B d, en = .returned (.tuple #[exV x B n d, .int .i64 ((p : Int) + 1), .int .i64 0]) ∧ TrR w' B d x.l ∧ Below X.heap.size X w') := Lib.hid fun X h => (front_at_w h.s (h.rr.take (p + 1)) (by rw [List.length_take, HL.out]; omega) (by omega) hft hn).mono fun en w' ⟨B, d, h1, h2, _, h4⟩ => ⟨B, d, h1, h2, h4⟩
      have C3 : Hid (∀ X, AS w X a0 cap0 L → Calls Tryz.prog 26 #[.slice a0 p cap0] X fun en w' => ∃ B d, en = .returned (.tuple #[exV y B y.l.length d, .int .i64 (k : Int), .int .i64 g]) ∧ Below X.heap.size X w') := Lib.hid fun X h => (front_at_w h.s (h.rr.take p) (by rw [List.length_take, HL.out]; omega) (by omega) hfl rfl).mono fun en w' ⟨B, d, h1, _, _, h4⟩ => ⟨B, d, h1, h4⟩
      have hc1 : ∀ W, (Instr.slice 39 (.slice a0 K cap0) none (some (.int .i64 ((p : Int) + 1))) none).run Tryz.prog W = .ok (.slice a0 (p + 1) cap0) W := fun W => cut_tk a0 K cap0 (p + 1) (by omega) W
      have hc2 : ∀ W, (Instr.slice 39 (.slice a0 K cap0) none (some (.int .i64 (p : Int))) none).run Tryz.prog W = .ok (.slice a0 p cap0) W := fun W => cut_tk a0 K cap0 p (by omega) W
      have CM : Hid (∀ (X : World) (B : Option Addr) (d : Nat), S10 w X → TrR X B d x.l → OKe x → Calls Tryz.prog 12 #[exV x B n d] X fun en w' => en = .returned (.bool true) ∧ Below X.heap.size X w') := Lib.hid fun X B d h t ok => by
        have := pc.may x B n d X t hn ok h.t10
        rwa [hmay] at this
      obtain ⟨N, hN⟩ : ∃ N, (tkE x).length = N := ⟨_, rfl⟩
      have htk : toksX x = (tkE x, 0) := by unfold toksX; rw [if_pos hmay]
      have CT : Hid (∀ (X : World) (B : Option Addr) (d : Nat), S10 w X → TrR X B d x.l → OKe x → Calls Tryz.prog 22 #[exV x B n d] X fun en w' => ∃ B2 d2, en = .returned (.tuple #[.slice B2 N d2, .int .i64 0]) ∧ RR w' B2 d2 (tkE x) ∧ Below X.heap.size X w') := Lib.hid fun X B d h t ok => by
        have := pc.toks x B n d X t hn ok h.t10
        rw [htk] at this
        dsimp only at this
        rw [hN] at this
        have hok : OKL (tkE x) := okl_tm (tk_tm x hal.1 (rng_of t ok))
        exact this.mono fun en w' ⟨B2, d2, h1, h2, h3⟩ => ⟨B2, d2, h1, h2.rr hok, h3⟩
      have CS : Hid (∀ (X : World) (B B2 : Option Addr) (d d2 : Nat), TrR X B d x.l → TrR X B2 d2 x.l → Calls Tryz.prog 20 #[exV x B n d, exV x B2 n d2] X fun en w' => en = .returned (.bool true) ∧ Below X.heap.size X w') := Lib.hid fun X B B2 d d2 t u => by
        have := RSameX_any x x B B2 n n d d2 X t hn u hn
        rwa [decide_eq_true rfl] at this
      have hNp := tk_pos hal.1
      rw [hN] at hNp hNq
      have CMt : Hid (∀ (X : World), OKL (tkE x) → rngE x = true → Calls Tryz.prog 29 #[rwV ((tkE x).getD 0 r0)] X fun en w' => en = .returned (.bool true) ∧ Below X.heap.size X w') := Lib.hid fun X h hr => by
        have := RMay_any ((tkE x).getD 0 r0) (h.get 0) X
        rwa [(tk_tm x hal.1 hr _ (getD_mem (by omega))).1] at this
      have HRng := Lib.hid (fun (X : World) (B : Option Addr) (d : Nat) (t : TrR X B d x.l) (ok : OKe x) => rng_of t ok)
      have HR0 : Hid (∀ (X : World) (B : Option Addr) (d : Nat), RR X B d (tkE x) → ∃ ad, B = some ad ∧ X.cell? ad = some (.int .u8 (((tkE x).getD 0 r0).k : Int)) ∧ X.cell? ⟨ad.block, ad.off + 1, none⟩ = some (.int .i64 ((tkE x).getD 0 r0).a) ∧ X.cell? ⟨ad.block, ad.off + 2, none⟩ = some (.string (strOf ((tkE x).getD 0 r0).tx)) ∧ X.cell? ⟨ad.block, ad.off + 3, none⟩ = some (.int .i32 ((tkE x).getD 0 r0).n)) := Lib.hid fun X B d R => by
        obtain ⟨ad, e, h0, h1, h2, h3⟩ := R.rd 0 (by omega)
        have hz : ad.add (0 * 4) = ad := by rw [Nat.zero_mul]; unfold Addr.add; simp
        rw [hz] at h0 h1 h2 h3
        exact ⟨ad, e, h0, h1, h2, h3⟩
      have hp0 : (0 : Int) ≤ (p : Int) := by omega
      have hp1 : (p : Int) + 1 ≤ (K : Int) := by omega
      have hK1 : (K : Int) ≤ 100 := by omega
      have hN0 : (N : Int) ≤ (p : Int) + 1 := by omega
      have hNz : (0 : Int) < (N : Int) := by omega
      have HB := Lib.hid (fun (X : World) (A2 : Option Addr) (c2 K2 : Nat) (h : BX X x A2 n c2 K2) => h.cells)
      have HNew := Lib.hid (fun (X : World) (A2 : Option Addr) (c2 : Nat) (t : TrR X A2 c2 x.l) => BX.new (n := n) t)
      have hg1 : g = 0 → (k : Int) < (p : Int) + 1 := fun h => by have := hless h; omega
      clear hf hrd hmay hft hfl hn htk hN hal hqK hq0 hpK hNp hNq hless hK100
      dsimp only [exV, exC, rwV] at *
      generalize hS : strOf x.s = S at *
      generalize strOf y.s = Sy at *
      generalize y.l.length = ny at *
      generalize (tkE x).getD 0 r0 = t0 at *
      generalize strOf t0.tx = St at *
      by_cases hg : g = 0
      · have hkp := hg1 hg
        subst hg
        clear hg1
        have hk0 : (0 : Int) ≤ (k : Int) := by omega
        go_wp2_with (first
        | (go_at_call 26; (with_reducible refine (C1.out _ HA.out).mono ?_); rintro e v1 ⟨B1, d1, rfl, ⟨t, ok⟩, b⟩; have H1 := Lib.hid ((HA.out.step b).step (bal (b0 v1) (.cells #[.int .u8 (x.k : Int), .int .u8 (x.o : Int), .int .u8 (x.t : Int), .int .i32 x.n, .string S, .slice B1 n d1] 27))); have X1 := Lib.hid (HNew.out v1 B1 d1 t); have OK1 := Lib.hid ok; clear b t ok; obtain ⟨z0, z1, z2, z3, z4, z5⟩ := HB.out _ _ _ _ X1.out)
        | (go_at_call 12; (with_reducible refine (CM.out _ _ _ H1.out.s X1.out.t OK1.out).mono ?_); rintro e v2 ⟨rfl, b⟩; have H2 := Lib.hid (H1.out.step b); have X2 := Lib.hid (X1.out.step b); clear b)
        | (go_at_call 26; (with_reducible refine (C2.out _ H2.out).mono ?_); rintro e v3 ⟨B3, d3, rfl, t, b⟩; have H3 := Lib.hid ((H2.out.step b).step (bal (b0 v3) (.cells #[.int .u8 (x.k : Int), .int .u8 (x.o : Int), .int .u8 (x.t : Int), .int .i32 x.n, .string S, .slice B3 n d3] 27))); have X3 := Lib.hid ((X2.out.step b).step (bal (b0 v3) (.cells #[.int .u8 (x.k : Int), .int .u8 (x.o : Int), .int .u8 (x.t : Int), .int .i32 x.n, .string S, .slice B3 n d3] 27))); have Y3 := Lib.hid (HNew.out v3 B3 d3 t); clear b t)
        | (go_at_call 26; (with_reducible refine (C3.out _ H3.out).mono ?_); rintro e v4 ⟨B4, d4, rfl, b⟩; have H4 := Lib.hid ((H3.out.step b).step (bal (b0 v4) (.cells #[.int .u8 (y.k : Int), .int .u8 (y.o : Int), .int .u8 (y.t : Int), .int .i32 y.n, .string Sy, .slice B4 ny d4] 27))); have X4 := Lib.hid ((X3.out.step b).step (bal (b0 v4) (.cells #[.int .u8 (y.k : Int), .int .u8 (y.o : Int), .int .u8 (y.t : Int), .int .i32 y.n, .string Sy, .slice B4 ny d4] 27))); have Y4 := Lib.hid ((Y3.out.step b).step (bal (b0 v4) (.cells #[.int .u8 (y.k : Int), .int .u8 (y.o : Int), .int .u8 (y.t : Int), .int .i32 y.n, .string Sy, .slice B4 ny d4] 27))); clear b; obtain ⟨y0, y1, y2, y3, y4, y5⟩ := HB.out _ _ _ _ X4.out)
        | (go_at_call 22; (with_reducible refine (CT.out _ _ _ H4.out.s X4.out.t OK1.out).mono ?_); rintro e v5 ⟨B5, d5, rfl, r, b⟩; have H5 := Lib.hid (H4.out.step b); have X5 := Lib.hid (X4.out.step b); have Y5 := Lib.hid (Y4.out.step b); have R5 := Lib.hid r; clear b r; obtain ⟨x0, x1, x2, x3, x4, x5⟩ := HB.out _ _ _ _ X5.out; obtain ⟨u0, u1, u2, u3, u4, u5⟩ := HB.out _ _ _ _ Y5.out)
        | (go_at_call 20; (with_reducible refine (CS.out _ _ _ _ _ X5.out.t Y5.out.t).mono ?_); rintro e v6 ⟨rfl, b⟩; have H6 := Lib.hid (H5.out.s.step b); obtain ⟨ad, rfl, w0, w1, w2, w3⟩ := HR0.out _ _ _ (R5.out.keep b); have K6 := Lib.hid (And.intro R5.out.ok (HRng.out _ _ _ X5.out.t OK1.out)); clear b)
        | (go_at_call 29; (with_reducible refine (CMt.out _ K6.out.1 K6.out.2).mono ?_); rintro e v7 ⟨rfl, b⟩; have H7 := Lib.hid (H6.out.step b); clear b)
        | (go_at_call 21; (with_reducible refine (CW.out _ H7.out).mono ?_); rintro e v8 ⟨rfl, b⟩; have H8 := Lib.hid (H7.out.step b); clear b))
        go_ret
        exact ⟨rfl, H8.out.bel⟩
      · have hgn : (g != 0) = true := by simp [hg]
        clear hg1
        go_wp2_with (first
        | (go_at_call 26; (with_reducible refine (C1.out _ HA.out).mono ?_); rintro e v1 ⟨B1, d1, rfl, ⟨t, ok⟩, b⟩; have H1 := Lib.hid ((HA.out.step b).step (bal (b0 v1) (.cells #[.int .u8 (x.k : Int), .int .u8 (x.o : Int), .int .u8 (x.t : Int), .int .i32 x.n, .string S, .slice B1 n d1] 27))); have X1 := Lib.hid (HNew.out v1 B1 d1 t); have OK1 := Lib.hid ok; clear b t ok; obtain ⟨z0, z1, z2, z3, z4, z5⟩ := HB.out _ _ _ _ X1.out)
        | (go_at_call 12; (with_reducible refine (CM.out _ _ _ H1.out.s X1.out.t OK1.out).mono ?_); rintro e v2 ⟨rfl, b⟩; have H2 := Lib.hid (H1.out.step b); have X2 := Lib.hid (X1.out.step b); clear b)
        | (go_at_call 26; (with_reducible refine (C2.out _ H2.out).mono ?_); rintro e v3 ⟨B3, d3, rfl, t, b⟩; have H3 := Lib.hid ((H2.out.step b).step (bal (b0 v3) (.cells #[.int .u8 (x.k : Int), .int .u8 (x.o : Int), .int .u8 (x.t : Int), .int .i32 x.n, .string S, .slice B3 n d3] 27))); have X3 := Lib.hid ((X2.out.step b).step (bal (b0 v3) (.cells #[.int .u8 (x.k : Int), .int .u8 (x.o : Int), .int .u8 (x.t : Int), .int .i32 x.n, .string S, .slice B3 n d3] 27))); have Y3 := Lib.hid (HNew.out v3 B3 d3 t); clear b t)
        | (go_at_call 26; (with_reducible refine (C3.out _ H3.out).mono ?_); rintro e v4 ⟨B4, d4, rfl, b⟩; have H4 := Lib.hid ((H3.out.step b).step (bal (b0 v4) (.cells #[.int .u8 (y.k : Int), .int .u8 (y.o : Int), .int .u8 (y.t : Int), .int .i32 y.n, .string Sy, .slice B4 ny d4] 27))); have X4 := Lib.hid ((X3.out.step b).step (bal (b0 v4) (.cells #[.int .u8 (y.k : Int), .int .u8 (y.o : Int), .int .u8 (y.t : Int), .int .i32 y.n, .string Sy, .slice B4 ny d4] 27))); have Y4 := Lib.hid ((Y3.out.step b).step (bal (b0 v4) (.cells #[.int .u8 (y.k : Int), .int .u8 (y.o : Int), .int .u8 (y.t : Int), .int .i32 y.n, .string Sy, .slice B4 ny d4] 27))); clear b; obtain ⟨y0, y1, y2, y3, y4, y5⟩ := HB.out _ _ _ _ X4.out)
        | (go_at_call 22; (with_reducible refine (CT.out _ _ _ H4.out.s X4.out.t OK1.out).mono ?_); rintro e v5 ⟨B5, d5, rfl, r, b⟩; have H5 := Lib.hid (H4.out.step b); have X5 := Lib.hid (X4.out.step b); have Y5 := Lib.hid (Y4.out.step b); have R5 := Lib.hid r; clear b r; obtain ⟨x0, x1, x2, x3, x4, x5⟩ := HB.out _ _ _ _ X5.out; obtain ⟨u0, u1, u2, u3, u4, u5⟩ := HB.out _ _ _ _ Y5.out)
        | (go_at_call 20; (with_reducible refine (CS.out _ _ _ _ _ X5.out.t Y5.out.t).mono ?_); rintro e v6 ⟨rfl, b⟩; have H6 := Lib.hid (H5.out.s.step b); obtain ⟨ad, rfl, w0, w1, w2, w3⟩ := HR0.out _ _ _ (R5.out.keep b); have K6 := Lib.hid (And.intro R5.out.ok (HRng.out _ _ _ X5.out.t OK1.out)); clear b)
        | (go_at_call 29; (with_reducible refine (CMt.out _ K6.out.1 K6.out.2).mono ?_); rintro e v7 ⟨rfl, b⟩; have H7 := Lib.hid (H6.out.step b); clear b)
        | (go_at_call 21; (with_reducible refine (CW.out _ H7.out).mono ?_); rintro e v8 ⟨rfl, b⟩; have H8 := Lib.hid (H7.out.step b); clear b))
        go_ret
        exact ⟨rfl, H8.out.bel⟩
    · have C1 : Hid (∀ X, AS w X a0 cap0 L → Calls Tryz.prog 26 #[.slice a0 K cap0] X fun en w' => ∃ B d, en = .returned (.tuple #[.agg #[.int .u8 0, .int .u8 0, .int .u8 0, .int .i32 0, .string ⟨#[]⟩, .slice B 0 d], .int .i64 0, .int .i64 er]) ∧ Below X.heap.size X w') := Lib.hid fun X h => (front_at_w h.s h.rr HL.out (by omega) hf rfl).mono fun en w' ⟨B, d, h1, _, _, h4⟩ => ⟨B, d, h1, h4⟩
      clear hf
      have HB : Hid (∀ (X : World) (B : Option Addr) (d : Nat), (X.alloc (.cells #[.int .u8 0, .int .u8 0, .int .u8 0, .int .i32 0, .string ⟨#[]⟩, .slice B 0 d] 27)).cell? ⟨X.heap.size, 0, none⟩ = some (.int .u8 0)) := Lib.hid fun X B d => ((boxS_new X 27 _).cell 0).trans rfl
      rcases her with rfl | rfl
      all_goals
        go_wp2_with (first
          | (go_at_call 26; (with_reducible refine (C1.out _ HA.out).mono ?_); rintro e v1 ⟨B1, d1, rfl, b⟩; have H1 := Lib.hid ((HA.out.s.step b).step (bal (b0 v1) (.cells #[.int .u8 0, .int .u8 0, .int .u8 0, .int .i32 0, .string ⟨#[]⟩, .slice B1 0 d1] 27))); have z0 := HB.out v1 B1 d1; clear b)
          | (go_at_call 21; (with_reducible refine (CW.out _ H1.out).mono ?_); rintro e v2 ⟨rfl, b⟩; have H2 := Lib.hid (H1.out.step b); clear b))
        go_ret
        exact ⟨rfl, H2.out.bel⟩
end Go.Proofs.YtplcmcealeeppaaGreatDoor
/- ExprTrees: its walk, up to the bound. -/
set_option linter.unusedVariables false
set_option linter.unusedSimpArgs false
namespace Go.Proofs.YtplcmcealeeppaaGreatDoor
open Go Go.RowKit L8 L10

/-- The law's two trees in their boxes, the copy in its own. -/
structure TT (w X : World) (a : Ex) (A : Option Addr) (n c : Nat) (b : Ex) (B : Option Addr) (m d : Nat) (A2 : Option Addr) (c2 K : Nat) : Prop where
  s : S10 w X
  ba : BX X a A n c w.heap.size
  bb : BX X b B m d (w.heap.size + 1)
  bo : BX X a A2 n c2 K
theorem TT.step {w X Y : World} {a b : Ex} {A B A2 : Option Addr} {n c m d c2 K : Nat} (h : TT w X a A n c b B m d A2 c2 K) (g : Below X.heap.size X Y) : TT w Y a A n c b B m d A2 c2 K := ⟨h.s.step g, h.ba.step g, h.bb.step g, h.bo.step g⟩
set_option maxRecDepth 100000 in
set_option maxHeartbeats 64000000 in
theorem walkExprTrees (a0 : Ex) (A : Option Addr) (n c : Nat) (hn : a0.l.length = n) (ok : OKe a0) (a1 : Ex) (B : Option Addr) (m d : Nat) (hm : a1.l.length = m) (ok1 : OKe a1) (o : Nat) (ho : o < 256) (w : World) (R : TrR w A c a0.l) (Q : TrR w B d a1.l) (h10 : T10 w) (hT : W1.Tab w) (hz0 : szE a0 ≤ 149796) (hz1 : szE a1 ≤ 149796) :
    Calls Tryz.prog 3 #[exV a0 A n c, exV a1 B m d, .int .u8 (o : Int)] w fun e w' => e = .returned (.bool true) ∧ Below w.heap.size w w' := by
  have HV : Hid (S10 w ((w.alloc (.cells (exC a0 A n c) 27)).alloc (.cells (exC a1 B m d) 27)) ∧ BX ((w.alloc (.cells (exC a0 A n c) 27)).alloc (.cells (exC a1 B m d) 27)) a0 A n c w.heap.size ∧ BX ((w.alloc (.cells (exC a0 A n c) 27)).alloc (.cells (exC a1 B m d) 27)) a1 B m d (w.heap.size + 1)) := Lib.hid (by
    have g := bal (bal (b0 w) (.cells (exC a0 A n c) 27)) (.cells (exC a1 B m d) 27)
    have h2 := boxS_new (w.alloc (.cells (exC a0 A n c) 27)) 27 (exC a1 B m d)
    rw [World.size_alloc] at h2
    exact ⟨S10.of hT h10 g, ⟨(boxS_new w _ _).alloc _, R.keep g⟩, ⟨h2, Q.keep g⟩⟩)
  have CC : Hid (∀ X, TrR X A c a0.l → Calls Tryz.prog 9 #[exV a0 A n c] X fun en w' => ∃ A2 c2, en = .returned (exV a0 A2 n c2) ∧ TrR w' A2 c2 a0.l ∧ Below X.heap.size X w') := Lib.hid fun X t => (copied_any a0 A n c X t hn ok (by omega)).mono fun en w' ⟨A2, c2, h1, h2, h3⟩ => ⟨A2, c2, h1, h2.tr, h3⟩
  have HC := Lib.hid (fun (X : World) (A2 : Option Addr) (c2 K2 : Nat) (h : BX X a0 A2 n c2 K2) => h.cells)
  have HCb := Lib.hid (fun (X : World) (A2 : Option Addr) (c2 K2 : Nat) (h : BX X a1 A2 m c2 K2) => h.cells)
  have HNew := Lib.hid (fun (X : World) (A2 : Option Addr) (c2 : Nat) (t : TrR X A2 c2 a0.l) => BX.new (n := n) t)
  have CWp := Lib.hid (fun (X : World) (h : S10 w X) => pc.word o ho X h.t10)
  have CWr := Lib.hid (fun (X : World) => RWordX_any o X)
  have CMo := Lib.hid (fun (X : World) (A2 : Option Addr) (c2 : Nat) (h : S10 w X) (t : TrR X A2 c2 a0.l) => pc.may a0 A2 n c2 X t hn ok h.t10)
  have CMr := Lib.hid (fun (X : World) (t : TrR X A c a0.l) => RMayX_any a0 A n c X t hn ok)
  have CSo := Lib.hid (fun (X : World) (A2 : Option Addr) (c2 : Nat) (h : S10 w X) (t : TrR X A2 c2 a0.l) => pc.size a0 A2 n c2 X t hn ok (by omega) h.t10)
  have CSr := Lib.hid (fun (X : World) (t : TrR X A c a0.l) => RSizeX_any a0 A n c X t hn (by omega))
  have CNo := Lib.hid (fun (X : World) (A2 : Option Addr) (c2 : Nat) (h : S10 w X) (t : TrR X A2 c2 a0.l) => pc.names a0 A2 n c2 X t hn ok (by omega) h.t10)
  have CNr : Hid (∀ X, TrR X A c a0.l → Calls Tryz.prog 18 #[exV a0 A n c] X fun en w' => ∃ B d, en = .returned (.slice B (nmE a0).length d) ∧ SS w' B d (nmE a0) ∧ Below X.heap.size X w') := Lib.hid fun X t => (RNames_any a0 A n c X t hn (by omega) ok.2.2.2.2.2).mono fun en w' ⟨B, d, h1, h2, h3⟩ => ⟨B, d, h1, h2.ss, h3⟩
  have CT : Hid (∀ (X : World) (B1 B2 : Option Addr) (d1 d2 : Nat), SS X B1 d1 (nmE a0) → SS X B2 d2 (nmE a0) → Calls Tryz.prog 16 #[.slice B1 (nmE a0).length d1, .slice B2 (nmE a0).length d2] X fun en w' => en = .returned (.bool true) ∧ Below X.heap.size X w') := Lib.hid fun X B1 B2 d1 d2 h k => by
    have := texts_any h k rfl rfl
    rwa [decide_eq_true rfl] at this
  have CE1 : Hid (∀ (X : World) (A2 : Option Addr) (c2 : Nat), S10 w X → TrR X A2 c2 a0.l → TrR X A c a0.l → Calls Tryz.prog 19 #[exV a0 A2 n c2, exV a0 A n c] X fun en w' => en = .returned (.bool true) ∧ Below X.heap.size X w') := Lib.hid fun X A2 c2 h t u => by
    have := pc.same a0 a0 A2 A n n c2 c X t hn ok u hn ok (by omega) (by omega)
    rwa [decide_eq_true rfl] at this
  have CE2 := Lib.hid (fun (X : World) (A2 : Option Addr) (c2 : Nat) (h : S10 w X) (t : TrR X A2 c2 a0.l) (u : TrR X B d a1.l) => pc.same a0 a1 A2 B n m c2 d X t hn ok u hm ok1 (by omega) (by omega))
  have CE3 := Lib.hid (fun (X : World) (t : TrR X A c a0.l) (u : TrR X B d a1.l) => RSameX_any a0 a1 A B n m c d X t hn u hm)
  have CE4 : Hid (∀ (X : World) (A2 : Option Addr) (c2 : Nat), TrR X A2 c2 a0.l → TrR X A c a0.l → Calls Tryz.prog 20 #[exV a0 A2 n c2, exV a0 A n c] X fun en w' => en = .returned (.bool true) ∧ Below X.heap.size X w') := Lib.hid fun X A2 c2 t u => by
    have := RSameX_any a0 a0 A2 A n n c2 c X t hn u hn
    rwa [decide_eq_true rfl] at this
  have CW := Lib.hid (fun (X : World) (h : S10 w X) => works_at h)
  have ho0 : (0 : Int) ≤ (o : Int) := by omega
  have ho1 : (o : Int) < 256 := by omega
  clear R Q h10 hT hn hm ok ok1 hz0 hz1 ho
  generalize mayE a0 = bm at *
  generalize szE a0 = z at *
  generalize hnm : nmE a0 = nms at *
  clear hnm
  generalize nms.length = q at *
  generalize decide (a0 = a1) = db at *
  generalize isOp o = bo at *
  generalize strOf (opW o) = So at *
  dsimp only [exV, exC] at *
  generalize hS : strOf a0.s = S at *
  generalize hS1 : strOf a1.s = T at *
  clear hS hS1
  have q0 : (bm == bm) = true := by simp
  have q1 : ((z : Int) == (z : Int)) = true := by simp
  have q2 : (db == db) = true := by simp
  have q3 : (bo == bo) = true := by simp
  have q4 : (So.toList == So.toList) = true := by simp
  go_enter Tryz.func3, Tryz.ntmps3
  obtain ⟨z0, z1, z2, z3, z4, z5⟩ := HC.out _ _ _ _ HV.out.2.1
  go_upto_region 4 with (first
    | (go_at_call 9; (with_reducible refine (CC.out _ HV.out.2.1.t).mono ?_); rintro e v1 ⟨A2, c2, rfl, t, g⟩; have H1 : Hid (TT w (v1.alloc (.cells #[.int .u8 (a0.k : Int), .int .u8 (a0.o : Int), .int .u8 (a0.t : Int), .int .i32 a0.n, .string S, .slice A2 n c2] 27)) a0 A n c a1 B m d A2 c2 v1.heap.size) := Lib.hid ⟨(HV.out.1.step g).step (bal (b0 _) _), (HV.out.2.1.step g).step (bal (b0 _) _), (HV.out.2.2.step g).step (bal (b0 _) _), HNew.out v1 A2 c2 t⟩; clear g t)
    | (go_at_call 10; (with_reducible refine (CWp.out _ H1.out.s).mono ?_); rintro e v2 ⟨rfl, g⟩; have H2 := Lib.hid (H1.out.step g); clear g)
    | (go_at_call 11; (with_reducible refine (CWr.out _).mono ?_); rintro e v3 ⟨rfl, g⟩; have H3 := Lib.hid (H2.out.step g); clear g))
  clear z0 z1 z2 z3 z4 z5
  generalize v1.heap.size = K at *
  have HX : Hid (∀ w', TT w w' a0 A n c a1 B m d A2 c2 K → (w'.cell? ⟨K, 0, none⟩ = some (.int .u8 (a0.k : Int)) ∧ w'.cell? ⟨K, 1, none⟩ = some (.int .u8 (a0.o : Int)) ∧ w'.cell? ⟨K, 2, none⟩ = some (.int .u8 (a0.t : Int)) ∧ w'.cell? ⟨K, 3, none⟩ = some (.int .i32 a0.n) ∧ w'.cell? ⟨K, 4, none⟩ = some (.string S) ∧ w'.cell? ⟨K, 5, none⟩ = some (.slice A2 n c2)) ∧ (w'.cell? ⟨w.heap.size, 0, none⟩ = some (.int .u8 (a0.k : Int)) ∧ w'.cell? ⟨w.heap.size, 1, none⟩ = some (.int .u8 (a0.o : Int)) ∧ w'.cell? ⟨w.heap.size, 2, none⟩ = some (.int .u8 (a0.t : Int)) ∧ w'.cell? ⟨w.heap.size, 3, none⟩ = some (.int .i32 a0.n) ∧ w'.cell? ⟨w.heap.size, 4, none⟩ = some (.string S) ∧ w'.cell? ⟨w.heap.size, 5, none⟩ = some (.slice A n c)) ∧ (w'.cell? ⟨w.heap.size + 1, 0, none⟩ = some (.int .u8 (a1.k : Int)) ∧ w'.cell? ⟨w.heap.size + 1, 1, none⟩ = some (.int .u8 (a1.o : Int)) ∧ w'.cell? ⟨w.heap.size + 1, 2, none⟩ = some (.int .u8 (a1.t : Int)) ∧ w'.cell? ⟨w.heap.size + 1, 3, none⟩ = some (.int .i32 a1.n) ∧ w'.cell? ⟨w.heap.size + 1, 4, none⟩ = some (.string T) ∧ w'.cell? ⟨w.heap.size + 1, 5, none⟩ = some (.slice B m d))) := Lib.hid fun X h => ⟨HC.out _ _ _ _ h.bo, HC.out _ _ _ _ h.ba, HCb.out _ _ _ _ h.bb⟩
  have HX4 : Hid (∀ w', TT w w' a0 A n c a1 B m d A2 c2 K → (w'.cell? ⟨K, 0, none⟩ = some (.int .u8 (a0.k : Int)) ∧ w'.cell? ⟨K, 1, none⟩ = some (.int .u8 (a0.o : Int)) ∧ w'.cell? ⟨K, 2, none⟩ = some (.int .u8 (a0.t : Int)) ∧ w'.cell? ⟨K, 3, none⟩ = some (.int .i32 a0.n) ∧ w'.cell? ⟨K, 4, none⟩ = some (.string S) ∧ w'.cell? ⟨K, 5, none⟩ = some (.slice A2 n c2)) ∧ (w'.cell? ⟨w.heap.size, 0, none⟩ = some (.int .u8 (a0.k : Int)) ∧ w'.cell? ⟨w.heap.size, 1, none⟩ = some (.int .u8 (a0.o : Int)) ∧ w'.cell? ⟨w.heap.size, 2, none⟩ = some (.int .u8 (a0.t : Int)) ∧ w'.cell? ⟨w.heap.size, 3, none⟩ = some (.int .i32 a0.n) ∧ w'.cell? ⟨w.heap.size, 4, none⟩ = some (.string S) ∧ w'.cell? ⟨w.heap.size, 5, none⟩ = some (.slice A n c))) := Lib.hid fun X h => ⟨HC.out _ _ _ _ h.bo, HC.out _ _ _ _ h.ba⟩
  clear HC HCb HNew HV H1 H2
  have HD : Hid (TT w v3.drew a0 A n c a1 B m d A2 c2 K) := Lib.hid (H3.out.step (bdrew (b0 v3) 1))
  have k1 := HX4.out _ H3.out
  have k2 := HX4.out _ HD.out
  go_region_held3 (fun w' => (w'.cell? ⟨K, 0, none⟩ = some (.int .u8 (a0.k : Int)) ∧ w'.cell? ⟨K, 1, none⟩ = some (.int .u8 (a0.o : Int)) ∧ w'.cell? ⟨K, 2, none⟩ = some (.int .u8 (a0.t : Int)) ∧ w'.cell? ⟨K, 3, none⟩ = some (.int .i32 a0.n) ∧ w'.cell? ⟨K, 4, none⟩ = some (.string S) ∧ w'.cell? ⟨K, 5, none⟩ = some (.slice A2 n c2)) ∧ (w'.cell? ⟨w.heap.size, 0, none⟩ = some (.int .u8 (a0.k : Int)) ∧ w'.cell? ⟨w.heap.size, 1, none⟩ = some (.int .u8 (a0.o : Int)) ∧ w'.cell? ⟨w.heap.size, 2, none⟩ = some (.int .u8 (a0.t : Int)) ∧ w'.cell? ⟨w.heap.size, 3, none⟩ = some (.int .i32 a0.n) ∧ w'.cell? ⟨w.heap.size, 4, none⟩ = some (.string S) ∧ w'.cell? ⟨w.heap.size, 5, none⟩ = some (.slice A n c)))
    (first | (exact k1) | (exact k2) | (exact HX4.out _ G1.out) | (exact HX4.out _ G2.out) | (exact HX4.out _ G3.out) | (exact HX4.out _ G4.out) | (exact HX4.out _ G5.out) | (exact HX4.out _ G6.out) | (exact HX4.out _ G7.out) | go_keep)
    (first
    | (go_at_call 12; (with_reducible refine (CMo.out _ _ _ HD.out.s HD.out.bo.t).mono ?_); rintro e u1 ⟨rfl, g⟩; have G1 := Lib.hid (HD.out.step g); clear g)
    | (go_at_call 13; (with_reducible refine (CMr.out _ G1.out.ba.t).mono ?_); rintro e u2 ⟨rfl, g⟩; have G2 := Lib.hid (G1.out.step g); clear g)
    | (go_at_call 14; (with_reducible refine (CSo.out _ _ _ G2.out.s G2.out.bo.t).mono ?_); rintro e u3 ⟨rfl, g⟩; have G3 := Lib.hid (G2.out.step g); clear g)
    | (go_at_call 15; (with_reducible refine (CSr.out _ G3.out.ba.t).mono ?_); rintro e u4 ⟨rfl, g⟩; have G4 := Lib.hid (G3.out.step g); clear g)
    | (go_at_call 17; (with_reducible refine (CNo.out _ _ _ G4.out.s G4.out.bo.t).mono ?_); rintro e u5 ⟨B5, d5, rfl, r, g⟩; have G5 := Lib.hid (G4.out.step g); have N5 := Lib.hid r; clear g r)
    | (go_at_call 18; (with_reducible refine (CNr.out _ G5.out.ba.t).mono ?_); rintro e u6 ⟨B6, d6, rfl, r, g⟩; have G6 := Lib.hid (G5.out.step g); have N6 := Lib.hid (And.intro (N5.out.keep g) r); clear g r)
    | (go_at_call 16; (with_reducible refine (CT.out _ _ _ _ _ N6.out.1 N6.out.2).mono ?_); rintro e u7 ⟨rfl, g⟩; have G7 := Lib.hid (G6.out.step g); clear g))
  go_wp2_with fail
  have HE : Hid (TT w u7.drew a0 A n c a1 B m d A2 c2 K) := Lib.hid (G7.out.step (bdrew (b0 u7) 1))
  have k3 := HX.out _ G7.out
  have k4 := HX.out _ HE.out
  clear k1 k2 HX4 H3 HD G1 G2 G3 G4 G5 N5 G6 N6 CWp CWr CMo CMr CSo CSr CNo CNr CT CC
  go_region_held3 (fun w' => (w'.cell? ⟨K, 0, none⟩ = some (.int .u8 (a0.k : Int)) ∧ w'.cell? ⟨K, 1, none⟩ = some (.int .u8 (a0.o : Int)) ∧ w'.cell? ⟨K, 2, none⟩ = some (.int .u8 (a0.t : Int)) ∧ w'.cell? ⟨K, 3, none⟩ = some (.int .i32 a0.n) ∧ w'.cell? ⟨K, 4, none⟩ = some (.string S) ∧ w'.cell? ⟨K, 5, none⟩ = some (.slice A2 n c2)) ∧ (w'.cell? ⟨w.heap.size, 0, none⟩ = some (.int .u8 (a0.k : Int)) ∧ w'.cell? ⟨w.heap.size, 1, none⟩ = some (.int .u8 (a0.o : Int)) ∧ w'.cell? ⟨w.heap.size, 2, none⟩ = some (.int .u8 (a0.t : Int)) ∧ w'.cell? ⟨w.heap.size, 3, none⟩ = some (.int .i32 a0.n) ∧ w'.cell? ⟨w.heap.size, 4, none⟩ = some (.string S) ∧ w'.cell? ⟨w.heap.size, 5, none⟩ = some (.slice A n c)) ∧ (w'.cell? ⟨w.heap.size + 1, 0, none⟩ = some (.int .u8 (a1.k : Int)) ∧ w'.cell? ⟨w.heap.size + 1, 1, none⟩ = some (.int .u8 (a1.o : Int)) ∧ w'.cell? ⟨w.heap.size + 1, 2, none⟩ = some (.int .u8 (a1.t : Int)) ∧ w'.cell? ⟨w.heap.size + 1, 3, none⟩ = some (.int .i32 a1.n) ∧ w'.cell? ⟨w.heap.size + 1, 4, none⟩ = some (.string T) ∧ w'.cell? ⟨w.heap.size + 1, 5, none⟩ = some (.slice B m d)))
    (first | (exact k3) | (exact k4) | (exact HX.out _ G8.out) | (exact HX.out _ G9.out) | (exact HX.out _ G10.out) | go_keep)
    (first
    | (go_at_call 19; (with_reducible refine (CE1.out _ _ _ HE.out.s HE.out.bo.t HE.out.ba.t).mono ?_); rintro e u8 ⟨rfl, g⟩; have G8 := Lib.hid (HE.out.step g); clear g)
    | (go_at_call 19; (with_reducible refine (CE2.out _ _ _ G8.out.s G8.out.bo.t G8.out.bb.t).mono ?_); rintro e u9 ⟨rfl, g⟩; have G9 := Lib.hid (G8.out.step g); clear g)
    | (go_at_call 20; (with_reducible refine (CE3.out _ G9.out.ba.t G9.out.bb.t).mono ?_); rintro e u10 ⟨rfl, g⟩; have G10 := Lib.hid (G9.out.step g); clear g))
  go_wp2_with fail
  obtain ⟨⟨z0, z1, z2, z3, z4, z5⟩, ⟨y0, y1, y2, y3, y4, y5⟩, _⟩ := HX.out _ G10.out
  clear k3 k4 HX HE G7 G8 G9 CE1 CE2 CE3
  go_wp2_with (first
    | (go_at_call 20; (with_reducible refine (CE4.out _ _ _ G10.out.bo.t G10.out.ba.t).mono ?_); rintro e u11 ⟨rfl, g⟩; have G11 := Lib.hid (G10.out.s.step g); clear g)
    | (go_at_call 21; (with_reducible refine (CW.out _ G11.out).mono ?_); rintro e u12 ⟨rfl, g⟩; have G12 := Lib.hid (G11.out.step g); clear g))
  go_ret
  exact ⟨rfl, G12.out.bel⟩
end Go.Proofs.YtplcmcealeeppaaGreatDoor
