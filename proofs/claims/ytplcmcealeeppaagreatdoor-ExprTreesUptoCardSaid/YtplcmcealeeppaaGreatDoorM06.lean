/- The program: the text of tokens. -/
import Derived.Deep.LoopGhost
import Derived.Deep.RegionLaw
import Derived.Deep.RegionHeld3
import Derived.Test.YtplcmcealeeppaaGreatDoorM05
import Derived.Test.YtplcmcealeeppaaGreatDoorLxf
import Derived.Test.YtplcmcealeeppaaGreatDoorM04
import Derived.Test.YtplcmcealeeppaaGreatDoorM03
import Derived.Test.YtplcmcealeeppaaGreatDoorM01
import Derived.Test.YtplcmcealeeppaaGreatDoorExe
set_option linter.unusedVariables false
set_option linter.unusedSimpArgs false
set_option linter.unusedVariables false
set_option linter.unusedSimpArgs false
namespace Go.Proofs.YtplcmcealeeppaaGreatDoor
open Go Go.RowKit L8

def lastT (l : List Tk) : Nat → Tk
  | 0 => r0
  | j + 1 => l.getD j r0
theorem kind_no0 {t : Tk} (h : may t = true) : t.k ≠ 0 := by
  obtain ⟨_, _, hp⟩ := may_parts h
  omega
theorem text_step {l : List Tk} {j : Nat} (hj : j < l.length) (hm : ∀ i, i < l.length → may (l.getD i r0) = true) : textT (l.take (j + 1)) = (if spB (lastT l j) (l.getD j r0) = true then textT (l.take j) ++ [32] else textT (l.take j)) ++ one (l.getD j r0) := by
  cases j with
  | zero =>
    rw [text_first rfl hj]
    have : spB (lastT l 0) (l.getD 0 r0) = false := spB_0 rfl
    rw [this, if_neg (by decide)]
  | succ p =>
    have h1 := textT_snoc (l := l) (j := p) (d := r0) hj
    rw [show p + 2 = p + 1 + 1 from rfl] at h1
    rw [h1]
    have h2 : spB (lastT l (p + 1)) (l.getD (p + 1) r0) = !near (l.getD p r0) (l.getD (p + 1) r0) := by
      unfold spB
      rw [if_neg (show ¬ (lastT l (p + 1)).k = 0 from kind_no0 (hm p (by omega)))]
      rfl
    rw [h2]
    unfold sep
    cases near (l.getD p r0) (l.getD (p + 1) r0)
    · rw [if_neg (by decide), if_pos (by decide), List.append_assoc]; rfl
    · rw [if_pos rfl, if_neg (by decide)]
/-! ### The builder and the boxes -/
theorem bld_new (w : World) : BldI w.heap.size w.heap.size [] (w.alloc (.cells #[.pointer none, .slice none 0 0] 85)) := Lib.fresh_isBuilder 85 5 w
theorem bldI_keepG {n b B : Nat} {l : Bs} {w w' : World} {cs : Array Value} (h : BldI n b l w) (hx : BoxS w B 47 cs) (g : w.grownBy w' (some B)) : BldI n b l w' := by
  have key : ∀ p, Lib.BuilderAt 85 5 n b p (Lib.byteCells l) w → Lib.BuilderAt 85 5 n b p (Lib.byteCells l) w' := by
    rintro p ⟨hB, v, hb, ho, hn⟩
    have hne : b ≠ B := by
      rintro rfl
      unfold BoxS at hx
      rw [hb] at hx
      injection hx with hx
      injection hx with _ hx
      exact absurd hx (by decide)
    refine ⟨hB, v, (g.block b (Array.getElem?_eq_some_iff.1 hb).1 (fun e => hne (by injection e))).trans hb, World.ownsRow.kept ho g ?_, hn⟩
    rcases ho.2 with ⟨rfl, _⟩ | ⟨gg, cap, cur, rfl, _, hgb, _⟩
    · exact .inl rfl
    · refine .inr (fun e => ?_)
      obtain rfl : gg = B := by simpa [Value.ownBlock] using e
      unfold BoxS at hx
      rw [hgb] at hx
      injection hx with hx
      injection hx with _ hx
      exact absurd hx (by decide)
  exact h.imp (key _) (key _)
def TxS (w1 X : World) (t : Bs) (y : Tk) : Prop := Below w1.heap.size w1 X ∧ BldI w1.heap.size w1.heap.size t X ∧ BoxS X (w1.heap.size + 1) 47 (bxT y)
def TxB (w1 X : World) (t : Bs) (y : Tk) (q : Nat) (x : Tk) : Prop := TxS w1 X t y ∧ BoxS X q 47 (bxT x) ∧ w1.heap.size + 1 < q
theorem TxS.new (w1 : World) : TxS w1 ((w1.alloc (.cells #[.pointer none, .slice none 0 0] 85)).alloc (.cells #[.int .u8 0, .int .i64 0, .string ⟨#[]⟩, .int .i32 0] 47)) [] r0 := by
  refine ⟨bal (bal (b0 w1) _) _, bldI_keep (bld_new w1) (bal (b0 _) _), ?_⟩
  have := boxS_new (w1.alloc (.cells #[.pointer none, .slice none 0 0] 85)) 47 #[.int .u8 0, .int .i64 0, .string ⟨#[]⟩, .int .i32 0]
  rw [World.size_alloc] at this
  exact this
theorem TxS.box {w1 X : World} {t : Bs} {y : Tk} (h : TxS w1 X t y) (x : Tk) : TxB w1 (X.alloc (.cells (bxT x) 47)) t y X.heap.size x :=
  ⟨⟨h.1.alloc h.1.size _, bldI_keep h.2.1 (bal (b0 X) _), BoxS.alloc h.2.2 _⟩, boxS_new X _ _, h.2.2.lt⟩
theorem TxB.space {w1 X Y : World} {t : Bs} {y x : Tk} {q : Nat} (h : TxB w1 X t y q x) (hb : BoxS Y (w1.heap.size + 1) 47 (bxT x)) (g : X.grownBy Y (some (w1.heap.size + 1))) : TxB w1 Y t x q x :=
  ⟨⟨h.1.1.trans (below_g g (by omega) h.1.1.size), bldI_keepG h.1.2.1 h.1.2.2 g, hb⟩, h.2.1.kept g (fun e => by injection e with e; have := h.2.2; omega), h.2.2⟩
theorem TxB.wrote {w1 X Y : World} {t t' : Bs} {y x : Tk} {q : Nat} (h : TxB w1 X t y q x) (u : BldU w1.heap.size w1.heap.size t' Y) (b : Below w1.heap.size X Y) (k : Kb w1.heap.size X Y) : TxB w1 Y t' y q x :=
  ⟨⟨h.1.1.trans b, Or.inr u, k _ _ _ (by omega) (by decide) h.1.2.2⟩, k _ _ _ (by have := h.2.2; omega) (by decide) h.2.1, h.2.2⟩
theorem TxB.below {w1 X Y : World} {t : Bs} {y x : Tk} {q : Nat} (h : TxB w1 X t y q x) (k : Below X.heap.size X Y) : TxB w1 Y t y q x :=
  ⟨⟨h.1.1.trans (k.mono h.1.1.size), bldI_keep h.1.2.1 k, h.1.2.2.below k⟩, h.2.1.below k, h.2.2⟩
theorem TxB.cells {w1 X : World} {t : Bs} {y : Tk} {q k : Nat} {a n : Int} {tx : Bs} (h : TxB w1 X t y q ⟨k, a, tx, n⟩) : X.cell? ⟨q, 0, none⟩ = some (.int .u8 (k : Int)) ∧ X.cell? ⟨q, 1, none⟩ = some (.int .i64 a) ∧ X.cell? ⟨q, 2, none⟩ = some (.string (strOf tx)) ∧ X.cell? ⟨q, 3, none⟩ = some (.int .i32 n) := (box4 h.2.1).1
set_option maxRecDepth 100000 in
set_option maxHeartbeats 16000000 in
theorem Text_any {A : Option Addr} {c m : Nat} {l : List Tk} {w : World} (R : RR w A c l) (hm : l.length = m) (ht : W1.Tab w) : Calls Tryz.prog 27 #[.slice A m c] w (GivesX w l) := by
  have HR := Lib.hid R
  have HM := Lib.hid hm
  have HTab := Lib.hid ht
  have hmx : m ≤ maxLen := by have := R.le; have := R.mx; omega
  unfold maxLen at hmx
  have HA := Lib.hid (fun (k : Nat) (h : k < m) (hx : may (l.getD k r0) = false) => text_arg (l := l) (k := k) (by omega) hx)
  have HAll := Lib.hid (fun (h : ∀ j, j < m → may (l.getD j r0) = true) => all_of (l := l) (fun j hj => h j (by omega)))
  have CM := Lib.hid (fun (k : Nat) (W : World) => May_any (l.getD k r0) (R.ok.get k) W)
  have CSp := Lib.hid (fun (W : World) => spacing_any W)
  have hent : ∀ (args : Array Value) (W : World), (callFunc 76 args).run Tryz.prog W = .ok (.enter 76 args) W := enters_of Tryz.func76 (by kernel_rfl) rfl
  unfold GivesX
  clear R hm ht
  go_enter Tryz.func27, Tryz.ntmps27
  go_wp2
  go_loopw [12] (fun i wr => ∃ k : Nat, k ≤ m ∧ i = .int .i64 k ∧ Hid (Below w.heap.size w wr ∧ ∀ j, j < k → may (l.getD j r0) = true)) (fun i _ => m - (intOf i).toNat)
  case atStart => exact ⟨0, Nat.zero_le _, rfl, Lib.hid ⟨b0 w, fun j hj => absurd hj (by omega)⟩⟩
  case round =>
    obtain ⟨k, hk, rfl, H⟩ := hrel
    have hk0 : (0 : Int) ≤ (k : Int) := by omega
    by_cases hlt : (k : Int) < (m : Int)
    · obtain ⟨ad, rfl, c0, c1, c2, c3⟩ := (HR.out.keep H.out.1).rd k (by have := HM.out; omega)
      have C := Lib.hid (CM.out k)
      have HX := Lib.hid (fun h => HA.out k (by omega) h)
      have HY := Lib.hid (show may (l.getD k r0) = true → ∀ j, j < k + 1 → may (l.getD j r0) = true from fun h j hj => if h2 : j < k then H.out.2 j h2 else by rw [show j = k by omega]; exact h)
      have HB := Lib.hid H.out.1
      clear H
      rw [rwV_eq] at C
      generalize l.getD k r0 = x at *
      obtain ⟨xk, xa, xt, xn⟩ := x
      dsimp only at *
      generalize strOf xt = S at *
      cases hmay : may ⟨xk, xa, xt, xn⟩ with
      | false =>
        rw [hmay] at C
        have HE := Lib.hid (HX.out hmay)
        clear HX HY hmay
        go_wp2_with (go_at_call 44; (with_reducible refine (C.out _).mono ?_); rintro e v1 ⟨rfl, b⟩; have B1 := Lib.hid (blw (bal HB.out (.cells #[.int .u8 (xk : Int), .int .i64 xa, .string S, .int .i32 xn] 47)) b); clear b)
        go_ret2
        rw [HE.out]
        exact ⟨rfl, B1.out⟩
      | true =>
        rw [hmay] at C
        have HE := Lib.hid (HY.out hmay)
        clear HX HY hmay
        go_wp2_with (go_at_call 44; (with_reducible refine (C.out _).mono ?_); rintro e v1 ⟨rfl, b⟩; have B1 := Lib.hid (And.intro (blw (bal HB.out (.cells #[.int .u8 (xk : Int), .int .i64 xa, .string S, .int .i32 xn] 47)) b) HE.out); clear b)
        go_roundw
        case rel => exact ⟨k + 1, by omega, by go_num, B1⟩
        case measure => simp [intOf]; omega
    · obtain rfl : k = m := by omega
      have HT := Lib.hid (HAll.out H.out.2)
      have HB := Lib.hid H.out.1
      have HMay := Lib.hid (show ∀ j, j < k → may (l.getD j r0) = true from H.out.2)
      have HS := Lib.hid (fun (j : Nat) (h : j < k) => text_step (l := l) (j := j) (by have := HM.out; omega) (fun i hi => HMay.out i (by have := HM.out; omega)))
      have HLg := Lib.hid (fun (i : Nat) (h : 256 < (textT (l.take i)).length) => text_long (l := l) HT.out (by have := textT_take l i; omega))
      have HOk := Lib.hid (fun (h : (textT l).length ≤ 256) => text_ok (l := l) HT.out h)
      have HAll2 := Lib.hid (show l.take k = l from List.take_of_length_le (by have := HM.out; omega))
      have CO := Lib.hid (fun (i : Nat) (h : i < k) (W : World) (hW : W1.Tab W) => textOf_any (l.getD i r0) (HR.out.ok.get i) (may_byte (HMay.out i h)) W hW)
      have HLe := Lib.hid (fun (i : Nat) (h : i < k) => one_le (HMay.out i h) (HR.out.ok.get i))
      have HT1 := Lib.hid (HTab.out.below HB.out)
      clear H CM HA HAll hlt HT
      have HV := Lib.hid (TxS.new wr)
      go_wp2_with (go_at_call 45; (with_reducible refine (CSp.out _).mono ?_); rintro e v1 ⟨rfl, rfl⟩)
      generalize (wr.alloc (.cells #[.pointer none, .slice none 0 0] 85)).alloc (.cells #[.int .u8 0, .int .i64 0, .string ⟨#[]⟩, .int .i32 0] 47) = V at *
      generalize wr = w1 at *
      clear CSp
      go_loopw [23] (fun i wr => ∃ j : Nat, j ≤ k ∧ i = .int .i64 j ∧ (textT (l.take j)).length ≤ 256 ∧ Hid (TxS w1 wr (textT (l.take j)) (lastT l j))) (fun i _ => k - (intOf i).toNat)
      case atStart => exact ⟨0, Nat.zero_le _, rfl, by simp [textT], HV⟩
      case round =>
        obtain ⟨j, hj, rfl, h256, H⟩ := hrel
        have hj0 : (0 : Int) ≤ (j : Int) := by omega
        by_cases hlt : (j : Int) < (k : Int)
        · obtain ⟨ad, rfl, c0, c1, c2, c3⟩ := (HR.out.keep (blw HB.out H.out.1)).rd j (by have := HM.out; omega)
          have hok := HR.out.ok.get j
          have hoky : OKx (lastT l j) := by cases j with | zero => exact okx_r0 | succ p => exact HR.out.ok.get p
          have hst := HS.out j (by omega)
          have hle := HLe.out j (by omega)
          have HX := Lib.hid (H.out.box (l.getD j r0))
          have COf := Lib.hid (fun (X : World) (t : Bs) (y : Tk) (h : TxB w1 X t y wr.heap.size (l.getD j r0)) => (CO.out j (by omega) X (HT1.out.below h.1.1)).mono fun e w' g => And.intro g.1 (h.below g.2))
          have HLg1 := Lib.hid (fun (h : 256 < (textT (l.take (j + 1))).length) => HLg.out (j + 1) h)
          have hlast : lastT l (j + 1) = l.getD j r0 := rfl
          obtain ⟨N, hN⟩ : ∃ N, (textT (l.take (j + 1))).length = N := ⟨_, rfl⟩
          have HNx := Lib.hid hN
          clear H HS HLg CO HLe
          rw [rwV_eq] at COf
          generalize l.getD j r0 = x at *
          generalize lastT l j = y at *
          generalize textT (l.take j) = t at *
          have CSc : Hid (∀ X, TxB w1 X t y wr.heap.size x → Calls Tryz.prog 76 #[rwV x, .pointer (some ⟨w1.heap.size + 1, 0, none⟩)] X fun e w' => e = .returned (.bool (spB y x)) ∧ TxB w1 w' t x wr.heap.size x) := Lib.hid fun X h => (space_any x y hok hoky h.1.2.2).mono fun e w' g => ⟨g.1, h.space g.2.1 g.2.2⟩
          have CWb : Hid (∀ X, TxB w1 X t x wr.heap.size x → Calls Tryz.prog 46 #[.pointer (some ⟨w1.heap.size, 0, none⟩), .int .u8 32] X fun e w' => e = .returned .nilIface ∧ TxB w1 w' (t ++ [32]) x wr.heap.size x) := Lib.hid fun X h => (writeByte_any w1.heap.size w1.heap.size t X h.1.2.1 (by omega) h.1.1.size).mono fun e w' g => ⟨g.1, h.wrote g.2.1 g.2.2.1 g.2.2.2⟩
          have CWs : Hid (∀ X t', t'.length ≤ 300 → TxB w1 X t' x wr.heap.size x → Calls Tryz.prog 47 #[.pointer (some ⟨w1.heap.size, 0, none⟩), .string (strOf (one x))] X fun e w' => e = .returned (.tuple #[.int .i64 ((one x).length : Int), .nilIface]) ∧ TxB w1 w' (t' ++ one x) x wr.heap.size x) := Lib.hid fun X t' hl h => (write_any w1.heap.size w1.heap.size t' (one x) X h.1.2.1 (by omega) h.1.1.size).mono fun e w' g => ⟨g.1, h.wrote g.2.1 g.2.2.1 g.2.2.2⟩
          have CLn : Hid (∀ X t', t'.length = N → TxB w1 X t' x wr.heap.size x → Calls Tryz.prog 49 #[.pointer (some ⟨w1.heap.size, 0, none⟩)] X fun e w' => e = .returned (.int .i64 (N : Int)) ∧ X = w') := Lib.hid fun X t' hl h => (Tryz.Builder_Len w1.heap.size w1.heap.size (Lib.byteCells t') X h.1.2.1).mono fun e w' g => ⟨by rw [g.1, Lib.byteCells_length, hl], g.2.symm⟩
          have HFin : Hid (∀ X t', t' = textT (l.take (j + 1)) → TxB w1 X t' x wr.heap.size x → TxS w1 X (textT (l.take (j + 1))) (lastT l (j + 1))) := Lib.hid fun X t' e h => by rw [hlast, ← e]; exact h.1
          have HBel : Hid (∀ X t', TxB w1 X t' x wr.heap.size x → Below w.heap.size w X) := Lib.hid fun X t' h => blw HB.out h.1.1
          clear hok hoky hlast
          rw [rwV_eq] at CSc
          generalize hT1 : textT (l.take (j + 1)) = T1 at *
          have HTe := Lib.hid hT1
          clear hT1
          unfold bxT at HX
          obtain ⟨xk, xa, xt, xn⟩ := x
          have HCl := Lib.hid (fun X t' (h : TxB w1 X t' ⟨xk, xa, xt, xn⟩ wr.heap.size ⟨xk, xa, xt, xn⟩) => h.cells)
          dsimp only at *
          generalize strOf xt = S at *
          have hN0 : (0 : Int) ≤ (N : Int) := by omega
          cases hsp : spB y ⟨xk, xa, xt, xn⟩ with
          | true =>
            rw [hsp] at CSc hst
            rw [if_pos rfl] at hst
            have L1 := Lib.hid (show (t ++ [32]).length ≤ 300 by rw [List.length_append, List.length_cons, List.length_nil]; omega)
            have L2 := Lib.hid (show (t ++ [32] ++ one ⟨xk, xa, xt, xn⟩).length = N by rw [← hst]; exact hN)
            have HF := Lib.hid (fun X h => HFin.out X _ hst.symm h)
            clear hsp hst hN HFin hle
            by_cases hlong : (256 : Int) < (N : Int)
            all_goals
              generalize strOf (one ⟨xk, xa, xt, xn⟩) = S3 at *
              go_wp2_with (first
                | (go_at_call 76; (with_reducible refine (CSc.out _ HX.out).mono ?_); rintro e v1 ⟨rfl, b⟩; have H1 := Lib.hid b; clear b)
                | (go_at_call 46; (with_reducible refine (CWb.out _ H1.out).mono ?_); rintro e v2 ⟨rfl, b⟩; have H2 := Lib.hid b; clear b; obtain ⟨x0, x1, x2, x3⟩ := HCl.out _ _ H2.out)
                | (go_at_call 48; (with_reducible refine (COf.out _ _ _ H2.out).mono ?_); rintro e v3 ⟨rfl, b⟩; have H3 := Lib.hid b; clear b)
                | (go_at_call 47; (with_reducible refine (CWs.out _ _ L1.out H3.out).mono ?_); rintro e v4 ⟨rfl, b⟩; have H4 := Lib.hid b; clear b)
                | (go_at_call 49; (with_reducible refine (CLn.out _ _ L2.out H4.out).mono ?_); rintro e v5 ⟨rfl, rfl⟩))
            · go_ret2
              rw [HLg1.out (by have := HNx.out; omega)]
              exact ⟨rfl, HBel.out _ _ H4.out⟩
            · go_roundw
              case rel => exact ⟨j + 1, by omega, by go_num, by rw [HTe.out]; have := HNx.out; omega, Lib.hid (by rw [HTe.out]; exact HF.out _ H4.out)⟩
              case measure => simp [intOf]; omega
          | false =>
            rw [hsp] at CSc hst
            rw [if_neg (by decide)] at hst
            have L1 := Lib.hid (show t.length ≤ 300 by omega)
            have L2 := Lib.hid (show (t ++ one ⟨xk, xa, xt, xn⟩).length = N by rw [← hst]; exact hN)
            have HF := Lib.hid (fun X h => HFin.out X _ hst.symm h)
            clear hsp hst hN HFin hle
            by_cases hlong : (256 : Int) < (N : Int)
            all_goals
              generalize strOf (one ⟨xk, xa, xt, xn⟩) = S3 at *
              go_wp2_with (first
                | (go_at_call 76; (with_reducible refine (CSc.out _ HX.out).mono ?_); rintro e v1 ⟨rfl, b⟩; have H2 := Lib.hid b; clear b; obtain ⟨x0, x1, x2, x3⟩ := HCl.out _ _ H2.out)
                | (go_at_call 48; (with_reducible refine (COf.out _ _ _ H2.out).mono ?_); rintro e v3 ⟨rfl, b⟩; have H3 := Lib.hid b; clear b)
                | (go_at_call 47; (with_reducible refine (CWs.out _ _ L1.out H3.out).mono ?_); rintro e v4 ⟨rfl, b⟩; have H4 := Lib.hid b; clear b)
                | (go_at_call 49; (with_reducible refine (CLn.out _ _ L2.out H4.out).mono ?_); rintro e v5 ⟨rfl, rfl⟩))
            · go_ret2
              rw [HLg1.out (by have := HNx.out; omega)]
              exact ⟨rfl, HBel.out _ _ H4.out⟩
            · go_roundw
              case rel => exact ⟨j + 1, by omega, by go_num, by rw [HTe.out]; have := HNx.out; omega, Lib.hid (by rw [HTe.out]; exact HF.out _ H4.out)⟩
              case measure => simp [intOf]; omega
        · obtain rfl : j = k := by omega
          have h3 := H.out.2.1
          rw [HAll2.out] at h256 h3
          have CSt := Lib.hid (show Calls Tryz.prog 50 #[.pointer (some ⟨w1.heap.size, 0, none⟩)] wr (fun e w' => e = .returned (.string (strOf (textT l))) ∧ Below w.heap.size w w') from (Tryz.Builder_String_any w1.heap.size w1.heap.size (textT l) wr h3 H.out.1.size).mono fun e w' g => ⟨g.1, blw HB.out (H.out.1.trans g.2)⟩)
          have HE := Lib.hid (show strOf (text l).1 = strOf (textT l) ∧ (text l).2 = 0 by rw [HOk.out h256]; exact ⟨rfl, rfl⟩)
          clear H h3
          generalize strOf (textT l) = S at *
          go_wp2_with (go_at_call 50; (with_reducible refine (CSt.out).mono ?_); rintro e v1 ⟨rfl, b⟩; have B1 := Lib.hid b; clear b)
          go_ret2
          rw [HE.out.1, HE.out.2]
          exact ⟨rfl, B1.out⟩
end Go.Proofs.YtplcmcealeeppaaGreatDoor
/- The laws' helpers and examples. -/
set_option linter.unusedVariables false
set_option linter.unusedSimpArgs false
namespace Go.Proofs.YtplcmcealeeppaaGreatDoor
open Go Go.RowKit L8

/-! ### Tokens that are made -/
theorem tokens_okl (s : Bs) : ∀ t ∈ (tokens s).1, may t = true ∧ OKn t := by
  intro t ht
  unfold tokens at ht
  by_cases h : 256 < s.length
  · rw [if_pos h] at ht; cases ht
  · rw [if_neg h] at ht
    cases hq : toks s 0 with
    | error p => rw [hq] at ht; cases ht
    | ok l => rw [hq] at ht; exact toks_may _ s 0 l (Nat.le_refl _) (by omega) hq t ht
theorem okl_tokens (s : Bs) : OKL (tokens s).1 := fun t ht => may_okx (tokens_okl s t ht).1 (tokens_okl s t ht).2
/-- Tokens' answer as letters. -/
theorem Tokens_at {s : Bs} {l : List Tk} {n e : Int} (hl : s.length ≤ maxLen) (w : World) (ht : W1.Tab w) (h : tokens s = (l, n, e)) : Calls Tryz.prog 28 #[.string (strOf s)] w fun en w' => ∃ A c, en = .returned (.tuple #[.slice A l.length c, .int .i64 n, .int .i64 e]) ∧ OwnR w' 47 w.heap.size A l.length c l ∧ Below w.heap.size w w' := by
  have := Tokens_any s hl w ht
  unfold GivesT at this
  rw [h] at this
  exact this
theorem okl_at {s : Bs} {l : List Tk} {n e : Int} (h : tokens s = (l, n, e)) : OKL l := by
  have := okl_tokens s
  rw [h] at this
  exact this
def tx1 : List Tk := [⟨3, 0, [], -1⟩, ⟨5, 0, [43], 0⟩, ⟨4, 0, [], 0⟩]
theorem okl_tx1 : OKL tx1 := by
  intro x hx
  simp only [tx1, List.mem_cons, List.not_mem_nil, or_false] at hx
  rcases hx with rfl | rfl | rfl
  all_goals (unfold OKx maxLen; decide)
theorem text_tx1 : text tx1 = ([35, 70, 70, 70, 70, 70, 70, 70, 70, 32, 43, 32, 39, 42, 35, 48, 48, 39], 0) := by decide +kernel
def tx2 : List Tk := [⟨1, 0, [102], 0⟩, ⟨5, 0, [40], 0⟩, ⟨1, 0, [97], 0⟩, ⟨5, 0, [44], 0⟩, ⟨1, 0, [98], 0⟩, ⟨5, 0, [91], 0⟩, ⟨3, 0, [], 1⟩, ⟨5, 0, [93], 0⟩, ⟨5, 0, [41], 0⟩]
theorem okl_tx2 : OKL tx2 := by
  intro x hx
  simp only [tx2, List.mem_cons, List.not_mem_nil, or_false] at hx
  rcases hx with rfl | rfl | rfl | rfl | rfl | rfl | rfl | rfl | rfl
  all_goals (unfold OKx maxLen; decide)
theorem text_tx2 : text tx2 = ([102, 40, 97, 44, 32, 98, 91, 49, 93, 41], 0) := by decide +kernel
def rd1 : List Tk := [⟨1, 0, [97], 0⟩, ⟨5, 0, [58, 61], 0⟩, ⟨1, 0, [98], 0⟩, ⟨5, 0, [62, 60], 0⟩, ⟨3, 0, [], 255⟩]
theorem okl_rd1 : OKL rd1 := by
  intro x hx
  simp only [rd1, List.mem_cons, List.not_mem_nil, or_false] at hx
  rcases hx with rfl | rfl | rfl | rfl | rfl
  all_goals (unfold OKx maxLen; decide)
def rd2 : List Tk := [⟨4, 0, [], 10⟩, ⟨4, 0, [], 10⟩, ⟨4, 0, [], 39⟩]
theorem okl_rd2 : OKL rd2 := by
  intro x hx
  simp only [rd2, List.mem_cons, List.not_mem_nil, or_false] at hx
  rcases hx with rfl | rfl | rfl
  all_goals (unfold OKx maxLen; decide)
def rd3 : List Tk := [⟨1, 0, [99], 0⟩, ⟨5, 0, [33], 0⟩, ⟨5, 0, [45], 0⟩, ⟨3, 0, [], 1⟩]
theorem okl_rd3 : OKL rd3 := by
  intro x hx
  simp only [rd3, List.mem_cons, List.not_mem_nil, or_false] at hx
  rcases hx with rfl | rfl | rfl | rfl
  all_goals (unfold OKx maxLen; decide)
def rd4 : List Tk := [⟨1, 0, [73, 78, 84, 46, 120], 0⟩, ⟨2, 0, [73, 78, 84], 0⟩]
theorem okl_rd4 : OKL rd4 := by
  intro x hx
  simp only [rd4, List.mem_cons, List.not_mem_nil, or_false] at hx
  rcases hx with rfl | rfl
  all_goals (unfold OKx maxLen; decide)
end Go.Proofs.YtplcmcealeeppaaGreatDoor
/- LexAgain, LexJoins, LexBytes: their walks. -/
set_option linter.unusedVariables false
set_option linter.unusedSimpArgs false
namespace Go.Proofs.YtplcmcealeeppaaGreatDoor
open Go Go.RowKit L8

theorem tokens_ways (s : Bs) : (256 < s.length ∧ tokens s = ([], 0, 3)) ∨ (s.length ≤ 256 ∧ ∃ p, toks s 0 = .error p ∧ tokens s = ([], (p : Int), 80)) ∨ (s.length ≤ 256 ∧ ∃ l, toks s 0 = .ok l ∧ tokens s = (l, 0, 0)) := by
  by_cases h : 256 < s.length
  · exact .inl ⟨h, tokens_long h⟩
  · right
    cases ht : toks s 0 with
    | error p => exact .inl ⟨by omega, p, rfl, tokens_err h ht⟩
    | ok l => exact .inr ⟨by omega, l, rfl, tokens_ok h ht⟩
theorem all_may {l : List Tk} (h : ∀ t ∈ l, may t = true ∧ OKn t) : l.all may = true := List.all_eq_true.2 fun t ht => (h t ht).1
theorem okl_may {l : List Tk} (h : ∀ t ∈ l, may t = true ∧ OKn t) : OKL l := fun t ht => may_okx (h t ht).1 (h t ht).2
theorem put_len (p : Nat) (l : List Tk) : (put p l).length = l.length := by
  have := congrArg List.length (kern_put p l)
  simpa [kern] using this
/-- Text's answer as letters. -/
theorem Text_at {A : Option Addr} {c m : Nat} {l : List Tk} {S : Bs} {er : Int} {w : World} (R : RR w A c l) (hm : l.length = m) (ht : W1.Tab w) (h : text l = (S, er)) : Calls Tryz.prog 27 #[.slice A m c] w fun e w' => e = .returned (.tuple #[.string (strOf S), .int .i64 er]) ∧ Below w.heap.size w w' := by
  have := Text_any R hm ht
  unfold GivesX at this
  rw [h] at this
  exact this
/-- The state of a law: what it reads stays, the table stays. -/
def St1 (w X : World) (A : Option Addr) (c : Nat) (l : List Tk) : Prop := Below w.heap.size w X ∧ W1.Tab X ∧ RR X A c l
theorem St1.step {w X Y : World} {A : Option Addr} {c : Nat} {l : List Tk} (h : St1 w X A c l) (b : Below X.heap.size X Y) : St1 w Y A c l := ⟨blw h.1 b, h.2.1.below b, h.2.2.keep b⟩
theorem St1.tab {w X : World} {A : Option Addr} {c : Nat} {l : List Tk} (h : St1 w X A c l) : W1.Tab X := h.2.1
theorem St1.rr {w X : World} {A : Option Addr} {c : Nat} {l : List Tk} (h : St1 w X A c l) : RR X A c l := h.2.2
def St2 (w X : World) (A : Option Addr) (c : Nat) (l : List Tk) (A2 : Option Addr) (c2 : Nat) (l2 : List Tk) : Prop := St1 w X A c l ∧ RR X A2 c2 l2
theorem St2.step {w X Y : World} {A A2 : Option Addr} {c c2 : Nat} {l l2 : List Tk} (h : St2 w X A c l A2 c2 l2) (b : Below X.heap.size X Y) : St2 w Y A c l A2 c2 l2 := ⟨h.1.step b, h.2.keep b⟩
theorem St2.tab {w X : World} {A A2 : Option Addr} {c c2 : Nat} {l l2 : List Tk} (h : St2 w X A c l A2 c2 l2) : W1.Tab X := h.1.2.1
theorem St2.rr1 {w X : World} {A A2 : Option Addr} {c c2 : Nat} {l l2 : List Tk} (h : St2 w X A c l A2 c2 l2) : RR X A c l := h.1.2.2
theorem St2.rr2 {w X : World} {A A2 : Option Addr} {c c2 : Nat} {l l2 : List Tk} (h : St2 w X A c l A2 c2 l2) : RR X A2 c2 l2 := h.2
end Go.Proofs.YtplcmcealeeppaaGreatDoor
/- The laws' small functions: lines that are read, and that are not. -/
set_option linter.unusedVariables false
set_option linter.unusedSimpArgs false
namespace Go.Proofs.YtplcmcealeeppaaGreatDoor
open Go Go.RowKit L8 L10

/-- What a law's world keeps: the tables. -/
def S10 (w X : World) : Prop := Below w.heap.size w X ∧ W1.Tab X ∧ T10 X
theorem S10.step {w X Y : World} (h : S10 w X) (b : Below X.heap.size X Y) : S10 w Y := ⟨blw h.1 b, h.2.1.below b, h.2.2.below b⟩
theorem S10.bel {w X : World} (h : S10 w X) : Below w.heap.size w X := h.1
theorem S10.tab {w X : World} (h : S10 w X) : W1.Tab X := h.2.1
theorem S10.t10 {w X : World} (h : S10 w X) : T10 X := h.2.2
theorem S10.new {w : World} (h1 : W1.Tab w) (h2 : T10 w) : S10 w w := ⟨b0 w, h1, h2⟩
set_option maxRecDepth 100000 in
set_option maxHeartbeats 4000000 in
theorem reads_any (P : Pc) (line : Bs) (hl : line.length ≤ maxLen) {L : List Tk} {p : Int} (ht : tokens line = (L, p, 0)) (hL : L.length ≤ 4000000) (want : Ex) (A : Option Addr) (n c : Nat) {k : Nat} (hf : frontX L = (want, k, 0)) (w : World) (hT : W1.Tab w) (h10 : T10 w) (R : TrR w A c want.l) (hn : want.l.length = n) (ok : OKe want) :
    Calls Tryz.prog 30 #[.string (strOf line), exV want A n c, .int .i64 (k : Int)] w fun en w' => en = .returned (.bool true) ∧ Below w.heap.size w w' := by
  have HV : Hid (XS w (w.alloc (.cells (exC want A n c) 27)) want A n c ∧ S10 w (w.alloc (.cells (exC want A n c) 27))) := Lib.hid ⟨XS.new (n := n) R, (S10.new hT h10).step (bal (b0 w) _)⟩
  have hok := okl_at ht
  obtain ⟨m, hm⟩ : ∃ m, L.length = m := ⟨_, rfl⟩
  have C1 : Hid (∀ X : World, W1.Tab X → Calls Tryz.prog 28 #[.string (strOf line)] X fun en w' => ∃ A2 c2, en = .returned (.tuple #[.slice A2 m c2, .int .i64 p, .int .i64 0]) ∧ RR w' A2 c2 L ∧ Below X.heap.size X w') := Lib.hid fun X h => by
    have := Tokens_at hl X h ht
    rw [hm] at this
    exact this.mono fun e w' ⟨A2, c2, h1, h2, h3⟩ => ⟨A2, c2, h1, h2.rr hok, h3⟩
  have C2 : Hid (∀ (X : World) (A2 : Option Addr) (c2 : Nat), RR X A2 c2 L → T10 X → Calls Tryz.prog 26 #[.slice A2 m c2] X fun en w' => ∃ B d, en = .returned (.tuple #[exV want B n d, .int .i64 (k : Int), .int .i64 0]) ∧ TrR w' B d want.l ∧ Below X.heap.size X w') := Lib.hid fun X A2 c2 R h => by
    have := P.front L A2 m c2 X R hm (by omega) h
    unfold GivesFX at this
    rw [hf] at this
    dsimp only at this
    rw [hn] at this
    exact this.mono fun e w' ⟨B, d, h1, h2, _, h3⟩ => ⟨B, d, h1, h2, h3⟩
  have C3 : Hid (∀ (X : World) (B C : Option Addr) (d f : Nat), TrR X B d want.l → TrR X C f want.l → Calls Tryz.prog 20 #[exV want B n d, exV want C n f] X fun en w' => en = .returned (.bool true) ∧ Below X.heap.size X w') := Lib.hid fun X B C d f R Q => by
    have := RSameX_any want want B C n n d f X R hn Q hn
    rwa [decide_eq_true rfl] at this
  have HBox : Hid (∀ X, XS w X want A n c → X.cell? ⟨w.heap.size, 0, none⟩ = some (.int .u8 (want.k : Int)) ∧ X.cell? ⟨w.heap.size, 1, none⟩ = some (.int .u8 (want.o : Int)) ∧ X.cell? ⟨w.heap.size, 2, none⟩ = some (.int .u8 (want.t : Int)) ∧ X.cell? ⟨w.heap.size, 3, none⟩ = some (.int .i32 want.n) ∧ X.cell? ⟨w.heap.size, 4, none⟩ = some (.string (strOf want.s)) ∧ X.cell? ⟨w.heap.size, 5, none⟩ = some (.slice A n c)) := Lib.hid fun X h => h.box
  have q1 : ((k : Int) == (k : Int)) = true := by simp
  clear R hn ok hT h10 hok hm ht hf P
  dsimp only [exV, exC] at *
  generalize strOf line = Z at *
  generalize strOf want.s = S at *
  go_enter Tryz.func30, Tryz.ntmps30
  go_wp2_with (first
    | (go_at_call 28; (with_reducible refine (C1.out _ HV.out.2.tab).mono ?_); rintro e v1 ⟨A2, c2, rfl, r, b⟩; have H1 := Lib.hid (And.intro (And.intro (HV.out.1.step b) (HV.out.2.step b)) r); clear b r)
    | (go_at_call 26; (with_reducible refine (C2.out _ _ _ H1.out.2 H1.out.1.2.t10).mono ?_); rintro e v2 ⟨B, d, rfl, t, b⟩; have H2 := Lib.hid (And.intro (And.intro ((H1.out.1.1.step b).step (bal (b0 _) (.cells #[.int .u8 (want.k : Int), .int .u8 (want.o : Int), .int .u8 (want.t : Int), .int .i32 want.n, .string S, .slice B n d] 27))) ((H1.out.1.2.step b).step (bal (b0 _) (.cells #[.int .u8 (want.k : Int), .int .u8 (want.o : Int), .int .u8 (want.t : Int), .int .i32 want.n, .string S, .slice B n d] 27)))) (t.keep (bal (b0 _) (.cells #[.int .u8 (want.k : Int), .int .u8 (want.o : Int), .int .u8 (want.t : Int), .int .i32 want.n, .string S, .slice B n d] 27)))); clear b t; obtain ⟨x0, x1, x2, x3, x4, x5⟩ := HBox.out _ H2.out.1.1)
    | (go_at_call 20; (with_reducible refine (C3.out _ _ _ _ _ H2.out.2 H2.out.1.1.tr).mono ?_); rintro e v3 ⟨rfl, b⟩; have H3 := Lib.hid (H2.out.1.2.step b); clear b))
  go_ret
  exact ⟨rfl, H3.out.bel⟩
set_option maxRecDepth 100000 in
set_option maxHeartbeats 4000000 in
theorem fails_any (P : Pc) (line : Bs) (hl : line.length ≤ maxLen) {L : List Tk} {p er : Int} (ht : tokens line = (L, p, 0)) (hL : L.length ≤ 4000000) (hf : frontX L = (e0, 0, er)) (w : World) (hT : W1.Tab w) (h10 : T10 w) :
    Calls Tryz.prog 33 #[.string (strOf line), .int .i64 er] w fun en w' => en = .returned (.bool true) ∧ Below w.heap.size w w' := by
  have HV : Hid (S10 w w) := Lib.hid (S10.new hT h10)
  have hok := okl_at ht
  obtain ⟨m, hm⟩ : ∃ m, L.length = m := ⟨_, rfl⟩
  have C1 : Hid (∀ X : World, W1.Tab X → Calls Tryz.prog 28 #[.string (strOf line)] X fun en w' => ∃ A2 c2, en = .returned (.tuple #[.slice A2 m c2, .int .i64 p, .int .i64 0]) ∧ RR w' A2 c2 L ∧ Below X.heap.size X w') := Lib.hid fun X h => by
    have := Tokens_at hl X h ht
    rw [hm] at this
    exact this.mono fun e w' ⟨A2, c2, h1, h2, h3⟩ => ⟨A2, c2, h1, h2.rr hok, h3⟩
  have C2 : Hid (∀ (X : World) (A2 : Option Addr) (c2 : Nat), RR X A2 c2 L → T10 X → Calls Tryz.prog 26 #[.slice A2 m c2] X fun en w' => ∃ B d, en = .returned (.tuple #[.agg #[.int .u8 0, .int .u8 0, .int .u8 0, .int .i32 0, .string ⟨#[]⟩, .slice B 0 d], .int .i64 0, .int .i64 er]) ∧ Below X.heap.size X w') := Lib.hid fun X A2 c2 R h => by
    have := P.front L A2 m c2 X R hm (by omega) h
    unfold GivesFX at this
    rw [hf] at this
    exact this.mono fun e w' ⟨B, d, h1, _, _, h3⟩ => ⟨B, d, h1, h3⟩
  have q1 : (er == er) = true := by simp
  clear hT h10 hok hm ht hf P
  generalize strOf line = Z at *
  go_enter Tryz.func33, Tryz.ntmps33
  go_wp2_with (first
    | (go_at_call 28; (with_reducible refine (C1.out _ HV.out.tab).mono ?_); rintro e v1 ⟨A2, c2, rfl, r, b⟩; have H1 := Lib.hid (And.intro (HV.out.step b) r); clear b r)
    | (go_at_call 26; (with_reducible refine (C2.out _ _ _ H1.out.2 H1.out.1.t10).mono ?_); rintro e v2 ⟨B, d, rfl, b⟩; have H2 := Lib.hid ((H1.out.1.step b).step (bal (b0 _) (.cells #[.int .u8 0, .int .u8 0, .int .u8 0, .int .i32 0, .string ⟨#[]⟩, .slice B 0 d] 27))); clear b))
  go_ret
  exact ⟨rfl, H2.out.bel⟩
end Go.Proofs.YtplcmcealeeppaaGreatDoor
/- The program's reader of tokens: its box, the next token, taking it. -/
set_option linter.unusedVariables false
set_option linter.unusedSimpArgs false
namespace Go.Proofs.YtplcmcealeeppaaGreatDoor
open Go Go.RowKit L8 L10

def rdC (A : Option Addr) (m c p o : Nat) : Array Value := #[.slice A m c, .int .i64 (p : Int), .int .i64 (o : Int)]
/-- The reader at b, p tokens taken, o brackets open. -/
structure Rdr (w : World) (b : Nat) (A : Option Addr) (m c : Nat) (l : List Tk) (p o : Nat) : Prop where
  box : BoxS w b 80 (rdC A m c p o)
  len : l.length = m
  sm : m ≤ 4000000
  rr : RR w A c l
  ne : ∀ ad, A = some ad → 0 < l.length → ad.block ≠ b
  t10 : T10 w
theorem Rdr.below {w w' : World} {b m c p o : Nat} {A : Option Addr} {l : List Tk} (h : Rdr w b A m c l p o) (k : Below w.heap.size w w') : Rdr w' b A m c l p o := ⟨h.box.below k, h.len, h.sm, h.rr.keep k, h.ne, h.t10.below k⟩
/-- The reader's block turns. -/
theorem Rdr.grow {w w' : World} {b m c p o p' o' : Nat} {A : Option Addr} {l : List Tk} (h : Rdr w b A m c l p o) (g : w.grownBy w' (some b)) (k : BoxS w' b 80 (rdC A m c p' o')) : Rdr w' b A m c l p' o' := by
  refine ⟨k, h.len, h.sm, ⟨h.rr.le, h.rr.mx, h.rr.ok, fun j hj => ?_⟩, h.ne, h.t10.grow g h.box (by right; rfl)⟩
  obtain ⟨ad, e, x⟩ := h.rr.rd j hj
  refine ⟨ad, e, ?_⟩
  have hb : (ad.add (j * 4)).block ≠ b := by rw [add_block]; exact h.ne ad e (by omega)
  have key : ∀ {q : Addr} {v : Value}, q.block ≠ b → w.cell? q = some v → w'.cell? q = some v := fun hq hc => g.cell hc (by simp; exact hq)
  exact ⟨key hb x.1, key (q := ⟨(ad.add (j * 4)).block, _, none⟩) hb x.2.1, key (q := ⟨(ad.add (j * 4)).block, _, none⟩) hb x.2.2.1, key (q := ⟨(ad.add (j * 4)).block, _, none⟩) hb x.2.2.2⟩
/-- A number of the reader is written. -/
theorem Rdr.setp {w : World} {b m c p o : Nat} {A : Option Addr} {l : List Tk} (h : Rdr w b A m c l p o) (q : Nat) : Rdr (w.setCell ⟨b, 1, none⟩ (.int .i64 (q : Int))) b A m c l q o ∧ w.grownBy (w.setCell ⟨b, 1, none⟩ (.int .i64 (q : Int))) (some b) := by
  have k : BoxS (w.setCell ⟨b, 1, none⟩ (.int .i64 (q : Int))) b 80 (rdC A m c q o) := by
    obtain ⟨hlt, hk⟩ := Array.getElem?_eq_some_iff.1 (show w.heap[b]? = _ from h.box)
    show (w.heap.modify b _)[b]? = _
    rw [Array.getElem?_eq_getElem (by rw [Array.size_modify]; exact hlt), Array.getElem_modify_self, hk]
    rfl
  exact ⟨h.grow (g_set w b 1 _) k, g_set w b 1 _⟩
theorem Rdr.seto {w : World} {b m c p o : Nat} {A : Option Addr} {l : List Tk} (h : Rdr w b A m c l p o) (q : Nat) : Rdr (w.setCell ⟨b, 2, none⟩ (.int .i64 (q : Int))) b A m c l p q ∧ w.grownBy (w.setCell ⟨b, 2, none⟩ (.int .i64 (q : Int))) (some b) := by
  have k : BoxS (w.setCell ⟨b, 2, none⟩ (.int .i64 (q : Int))) b 80 (rdC A m c p q) := by
    obtain ⟨hlt, hk⟩ := Array.getElem?_eq_some_iff.1 (show w.heap[b]? = _ from h.box)
    show (w.heap.modify b _)[b]? = _
    rw [Array.getElem?_eq_getElem (by rw [Array.size_modify]; exact hlt), Array.getElem_modify_self, hk]
    rfl
  exact ⟨h.grow (g_set w b 2 _) k, g_set w b 2 _⟩
theorem Rdr.cells {w : World} {b m c p o : Nat} {A : Option Addr} {l : List Tk} (h : Rdr w b A m c l p o) : (w.cell? ⟨b, 0, none⟩ = some (.slice A m c) ∧ w.cell? ⟨b, 1, none⟩ = some (.int .i64 (p : Int)) ∧ w.cell? ⟨b, 2, none⟩ = some (.int .i64 (o : Int))) ∧ (w.frozen? ⟨b, 1, none⟩ = false ∧ w.frozen? ⟨b, 2, none⟩ = false) ∧ b < w.heap.size :=
  ⟨⟨(h.box.cell 0).trans rfl, (h.box.cell 1).trans rfl, (h.box.cell 2).trans rfl⟩, ⟨h.box.frozen 1, h.box.frozen 2⟩, h.box.lt⟩
theorem Rdr.max {w : World} {b m c p o : Nat} {A : Option Addr} {l : List Tk} (h : Rdr w b A m c l p o) : m ≤ maxLen := by have := h.rr.le; have := h.rr.mx; have := h.len; omega
/-- The token at a place, with its place: as next hands it back. -/
def NxT (t : Tk) (a : Int) : Array Value := #[.int .u8 (t.k : Int), .int .i64 a, .string (strOf t.tx), .int .i32 t.n]
set_option maxRecDepth 100000 in
set_option maxHeartbeats 8000000 in
theorem next_any {w : World} {b m c p o : Nat} {A : Option Addr} {l : List Tk} (h : Rdr w b A m c l p o) (hp : p ≤ m) : Calls Tryz.prog 94 #[.pointer (some ⟨b, 0, none⟩)] w fun en w' => ∃ a : Int, en = .returned (.agg (NxT (atB l p) a)) ∧ Below w.heap.size w w' := by
  have hmx := h.max
  unfold maxLen at hmx
  have hlen := h.len
  have hV := Lib.hid (bal (b0 w) (.cells #[.int .u8 0, .int .i64 0, .string ⟨#[]⟩, .int .i32 0] 47))
  have hX := Lib.hid (boxS_new w 47 #[.int .u8 0, .int .i64 0, .string ⟨#[]⟩, .int .i32 0])
  have hR := h.below hV.out
  obtain ⟨⟨c0, c1, _⟩, _, hb⟩ := hR.cells
  have hp0 : (0 : Int) ≤ (p : Int) := by omega
  by_cases he : p = m
  · have qe : ((p : Int) == (m : Int)) = true := by simp [he]
    have hz : atB l p = z0 := at_end (by omega)
    rw [hz]
    have HB := Lib.hid (fun n => And.intro (bdrew hV.out n) (hX.out.below (bdrew (b0 _) n)))
    clear h hR hp hz he hlen
    unfold NxT
    have hz2 : ∀ a : Int, (#[.int .u8 (z0.k : Int), .int .i64 a, .string (strOf z0.tx), .int .i32 z0.n] : Array Value) = #[.int .u8 0, .int .i64 a, .string ⟨#[]⟩, .int .i32 0] := fun _ => rfl
    simp only [hz2]
    clear hz2
    go_enter Tryz.func94, Tryz.ntmps94
    go_wp2
    go_quiet (fail)
    go_wp2
    have HD := Lib.hid (HB.out nq)
    clear c0 c1 HB hV hX
    generalize (w.alloc (.cells #[.int .u8 0, .int .i64 0, .string ⟨#[]⟩, .int .i32 0] 47)).drewN nq = W1 at *
    have HF := Lib.hid (And.intro (box4_all (.int .u8 0) (.int .i64 0) (.string ⟨#[]⟩) (.int .i32 0) HD.out.2) (bset4 HD.out.1 (Nat.le_refl _) (.int .u8 0) (.int .i64 0) (.string ⟨#[]⟩) (.int .i32 0)))
    unfold set4 at HF
    generalize (((W1.setCell ⟨w.heap.size, 0, none⟩ (.int .u8 0)).setCell ⟨w.heap.size, 1, none⟩ (.int .i64 0)).setCell ⟨w.heap.size, 2, none⟩ (.string ⟨#[]⟩)).setCell ⟨w.heap.size, 3, none⟩ (.int .i32 0) = X5 at *
    obtain ⟨⟨y0, y1, y2, y3⟩, yl⟩ := box4 HF.out.1
    refine bodyPost_ret (v := .agg #[.int .u8 0, .int .i64 0, .string ⟨#[]⟩, .int .i32 0]) (by simp [results, Tryz.results94, go_sem, y0, y1, y2, y3]) rfl ⟨0, rfl, HF.out.2⟩
  · have qe : ((p : Int) == (m : Int)) = false := by
      have : ¬ (p : Int) = (m : Int) := by omega
      simp [this]
    have hpl : (p : Int) < (m : Int) := by omega
    obtain ⟨ad, rfl, x0, x1, x2, x3⟩ := hR.rr.rd p (by omega)
    have hat : atB l p = if may (l.getD p r0) = true then base (l.getD p r0) else z0 := rfl
    have CM := Lib.hid (fun (W : World) => May_any (l.getD p r0) (h.rr.ok.get p) W)
    have hKeep : Hid (∀ W, Below (w.alloc (.cells #[.int .u8 0, .int .i64 0, .string ⟨#[]⟩, .int .i32 0] 47)).heap.size (w.alloc (.cells #[.int .u8 0, .int .i64 0, .string ⟨#[]⟩, .int .i32 0] 47)) W → (Below w.heap.size w W ∧ BoxS W w.heap.size 47 #[.int .u8 0, .int .i64 0, .string ⟨#[]⟩, .int .i32 0]) ∧ (W.cell? ⟨b, 0, none⟩ = some (.slice (some ad) m c) ∧ W.cell? ⟨b, 1, none⟩ = some (.int .i64 (p : Int))) ∧ RwAt W (ad.add (p * 4)) (l.getD p r0)) := Lib.hid fun W k => ⟨⟨blw hV.out k, hX.out.below k⟩, ⟨(hR.below k).cells.1.1, (hR.below k).cells.1.2.1⟩, (show RwAt (w.alloc (.cells #[.int .u8 0, .int .i64 0, .string ⟨#[]⟩, .int .i32 0] 47)) (ad.add (p * 4)) (l.getD p r0) from ⟨x0, x1, x2, x3⟩).keep k⟩
    rw [hat]
    clear h hR hp he hat hlen
    generalize l.getD p r0 = x at *
    obtain ⟨xk, xa, xt, xn⟩ := x
    dsimp only [rwV, base, NxT] at *
    unfold RwAt at hKeep
    dsimp only at hKeep
    generalize may ⟨xk, xa, xt, xn⟩ = bm at *
    generalize hS : strOf xt = S at *
    have HS := Lib.hid hS
    clear hS
    cases bm
    · simp only [Bool.false_eq_true, if_false]
      have hz2 : ∀ a : Int, (#[.int .u8 (z0.k : Int), .int .i64 a, .string (strOf z0.tx), .int .i32 z0.n] : Array Value) = #[.int .u8 0, .int .i64 a, .string ⟨#[]⟩, .int .i32 0] := fun _ => rfl
      simp only [hz2]
      clear hz2
      have qe0 := qe
      go_enter Tryz.func94, Tryz.ntmps94
      go_wp2
      generalize hW : w.alloc (.cells #[.int .u8 0, .int .i64 0, .string ⟨#[]⟩, .int .i32 0] 47) = V at *
      have hK0 := Lib.hid (hKeep.out V (b0 V))
      have hK1 := Lib.hid (hKeep.out V.drew (bdrew (b0 V) 1))
      go_region_held3 (fun w' => (w'.cell? ⟨b, 0, none⟩ = some (.slice (some ad) m c) ∧ w'.cell? ⟨b, 1, none⟩ = some (.int .i64 (p : Int))) ∧ (w'.cell? (ad.add (p * 4)) = some (.int .u8 (xk : Int)) ∧ w'.cell? ⟨(ad.add (p * 4)).block, (ad.add (p * 4)).off + 1, none⟩ = some (.int .i64 xa) ∧ w'.cell? ⟨(ad.add (p * 4)).block, (ad.add (p * 4)).off + 2, none⟩ = some (.string S) ∧ w'.cell? ⟨(ad.add (p * 4)).block, (ad.add (p * 4)).off + 3, none⟩ = some (.int .i32 xn)))
        (first | (exact hK0.out.2) | (exact hK1.out.2) | (exact hK2.out.2) | go_keep)
        (first | (go_at_call 44; (with_reducible refine (CM.out _).mono ?_); rintro e1 W1 ⟨rfl, k⟩; have hBW := Lib.hid (blw (bdrew (b0 V) 1) k); have hK2 := Lib.hid (hKeep.out W1 hBW.out); clear k))
      all_goals (
        obtain ⟨⟨x0, x1, x2, x3⟩, xl⟩ := box4 hK2.out.1.2
        obtain ⟨f0, f1, f2, f3⟩ := box4f hK2.out.1.2
        go_wp2
        clear x0 x1 x2 x3 f0 f1 f2 f3
        have HD := Lib.hid hK2.out.1
        have HF := Lib.hid (And.intro (box4_all (.int .u8 0) (.int .i64 0) (.string ⟨#[]⟩) (.int .i32 0) HD.out.2) (bset4 HD.out.1 (Nat.le_refl _) (.int .u8 0) (.int .i64 0) (.string ⟨#[]⟩) (.int .i32 0)))
        unfold set4 at HF
        generalize (((W1.setCell ⟨w.heap.size, 0, none⟩ (.int .u8 0)).setCell ⟨w.heap.size, 1, none⟩ (.int .i64 0)).setCell ⟨w.heap.size, 2, none⟩ (.string ⟨#[]⟩)).setCell ⟨w.heap.size, 3, none⟩ (.int .i32 0) = X5 at *
        obtain ⟨⟨y0, y1, y2, y3⟩, yl⟩ := box4 HF.out.1
        refine bodyPost_ret (v := .agg #[.int .u8 0, .int .i64 0, .string ⟨#[]⟩, .int .i32 0]) (by simp [results, Tryz.results94, go_sem, y0, y1, y2, y3]) rfl ⟨0, rfl, HF.out.2⟩)
    · simp only [if_true]
      rw [HS.out]
      have qe0 := qe
      go_enter Tryz.func94, Tryz.ntmps94
      go_wp2
      generalize hW : w.alloc (.cells #[.int .u8 0, .int .i64 0, .string ⟨#[]⟩, .int .i32 0] 47) = V at *
      have hK0 := Lib.hid (hKeep.out V (b0 V))
      have hK1 := Lib.hid (hKeep.out V.drew (bdrew (b0 V) 1))
      go_region_held3 (fun w' => (w'.cell? ⟨b, 0, none⟩ = some (.slice (some ad) m c) ∧ w'.cell? ⟨b, 1, none⟩ = some (.int .i64 (p : Int))) ∧ (w'.cell? (ad.add (p * 4)) = some (.int .u8 (xk : Int)) ∧ w'.cell? ⟨(ad.add (p * 4)).block, (ad.add (p * 4)).off + 1, none⟩ = some (.int .i64 xa) ∧ w'.cell? ⟨(ad.add (p * 4)).block, (ad.add (p * 4)).off + 2, none⟩ = some (.string S) ∧ w'.cell? ⟨(ad.add (p * 4)).block, (ad.add (p * 4)).off + 3, none⟩ = some (.int .i32 xn)))
        (first | (exact hK0.out.2) | (exact hK1.out.2) | (exact hK2.out.2) | go_keep)
        (first | (go_at_call 44; (with_reducible refine (CM.out _).mono ?_); rintro e1 W1 ⟨rfl, k⟩; have hBW := Lib.hid (blw (bdrew (b0 V) 1) k); have hK2 := Lib.hid (hKeep.out W1 hBW.out); clear k))
      all_goals (
        go_wp2
        have hK3 := Lib.hid (hKeep.out W1.drew (bdrew hBW.out 1))
        obtain ⟨⟨x0, x1, x2, x3⟩, xl⟩ := box4 hK3.out.1.2
        obtain ⟨f0, f1, f2, f3⟩ := box4f hK3.out.1.2
        obtain ⟨⟨u0, u1, u2, u3⟩, ul⟩ := box4 hK2.out.1.2
        obtain ⟨g0, g1, g2, g3⟩ := box4f hK2.out.1.2
        obtain ⟨⟨v0, v1⟩, v2, v3, v4, v5⟩ := hK3.out.2
        go_region_law (fail)
        all_goals (
          go_wp2
          clear x0 x1 x2 x3 f0 f1 f2 f3 u0 u1 u2 u3 g0 g1 g2 g3 v0 v1 v2 v3 v4 v5
          have HD := Lib.hid hK2.out.1
          have HF := Lib.hid (And.intro (box4_all (.int .u8 xk) (.int .i64 xa) (.string S) (.int .i32 xn) HD.out.2) (bset4 HD.out.1 (Nat.le_refl _) (.int .u8 xk) (.int .i64 xa) (.string S) (.int .i32 xn)))
          unfold set4 at HF
          generalize (((W1.setCell ⟨w.heap.size, 0, none⟩ (.int .u8 xk)).setCell ⟨w.heap.size, 1, none⟩ (.int .i64 xa)).setCell ⟨w.heap.size, 2, none⟩ (.string S)).setCell ⟨w.heap.size, 3, none⟩ (.int .i32 xn) = X5 at *
          obtain ⟨⟨y0, y1, y2, y3⟩, yl⟩ := box4 HF.out.1
          refine bodyPost_ret (v := .agg #[.int .u8 xk, .int .i64 xa, .string S, .int .i32 xn]) (by first | (simp [results, Tryz.results94, go_sem, y0, y1, y2, y3]; done) | (simp [results, Tryz.results94, go_sem, World.drew, y0, y1, y2, y3]; done) | (obtain ⟨⟨z0, z1, z2, z3⟩, zl⟩ := box4 (BoxS.below HF.out.1 (bdrew (b0 X5) 1)); simp [results, Tryz.results94, go_sem, z0, z1, z2, z3])) rfl ⟨xa, rfl, bdrew HF.out.2 1⟩))
end Go.Proofs.YtplcmcealeeppaaGreatDoor
/- The program's way through a tree: its steps. -/
set_option linter.unusedVariables false
set_option linter.unusedSimpArgs false
namespace Go.Proofs.YtplcmcealeeppaaGreatDoor
open Go Go.RowKit L8 L10

/-! ### A tree's box that is written -/
def set6 (W : World) (B : Nat) (a b c d e f : Value) : World := (((((W.setCell ⟨B, 0, none⟩ a).setCell ⟨B, 1, none⟩ b).setCell ⟨B, 2, none⟩ c).setCell ⟨B, 3, none⟩ d).setCell ⟨B, 4, none⟩ e).setCell ⟨B, 5, none⟩ f
theorem boxset {W : World} {B : Nat} {t : TypeId} {cs : Array Value} (h : BoxS W B t cs) (j : Nat) (v : Value) : BoxS (W.setCell ⟨B, j, none⟩ v) B t (cs.setIfInBounds j v) := by
  obtain ⟨hlt, hk⟩ := Array.getElem?_eq_some_iff.1 (show W.heap[B]? = _ from h)
  show (W.heap.modify B _)[B]? = _
  rw [Array.getElem?_eq_getElem (by rw [Array.size_modify]; exact hlt), Array.getElem_modify_self, hk]
  rfl
theorem box6_all {W : World} {B : Nat} {t : TypeId} {a' b' c' d' e' f' : Value} (a b c d e f : Value) (h : BoxS W B t #[a', b', c', d', e', f']) : BoxS (set6 W B a b c d e f) B t #[a, b, c, d, e, f] := by
  have := boxset (boxset (boxset (boxset (boxset (boxset h 0 a) 1 b) 2 c) 3 d) 4 e) 5 f
  unfold set6
  simpa using this
theorem box6f {W : World} {B : Nat} {t : TypeId} {cs : Array Value} (h : BoxS W B t cs) : W.frozen? ⟨B, 0, none⟩ = false ∧ W.frozen? ⟨B, 1, none⟩ = false ∧ W.frozen? ⟨B, 2, none⟩ = false ∧ W.frozen? ⟨B, 3, none⟩ = false ∧ W.frozen? ⟨B, 4, none⟩ = false ∧ W.frozen? ⟨B, 5, none⟩ = false :=
  ⟨h.frozen 0, h.frozen 1, h.frozen 2, h.frozen 3, h.frozen 4, h.frozen 5⟩
theorem bset6 {n : Nat} {w W : World} (h : Below n w W) {B : Nat} (hB : n ≤ B) (a b c d e f : Value) : Below n w (set6 W B a b c d e f) := bset (bset (bset (bset (bset (bset h hB _) hB _) hB _) hB _) hB _) hB _
/-! ### push -/
set_option maxRecDepth 100000 in
set_option maxHeartbeats 4000000 in
theorem push_any {w : World} {B b n c m d : Nat} {N : Nat → Prop} {A D : Option Addr} {S : List Lt} (h : Wk w B b N A n c S) (l : List Ex) (R : TrN w N D d l) (hm : l.length = m) (hs : totS (ltL S) ≤ 1000000) :
    Calls Tryz.prog 58 #[.pointer (some ⟨b, 0, none⟩), .slice D m d] w fun en w' => en = .returned (.tuple #[]) ∧ WkR w w' B b N A (pushS (ltL S) l) := by
  have hmx : m ≤ maxLen := by have := R.le; have := R.mx; omega
  unfold maxLen at hmx
  have hn : n ≤ 1000000 := by have := len_tot h.nn; have := h.len; omega
  by_cases hl : l = []
  · have hm0 : m = 0 := by rw [← hm, hl]; rfl
    subst hm0
    have HR : Hid (WkR w w B b N A (pushS (ltL S) l)) := Lib.hid ⟨A, n, c, S, h, by unfold pushS; rw [if_pos hl], Fr.refl w _, Gr.refl w A⟩
    clear h R hm hs hl
    go_enter Tryz.func58, Tryz.ntmps58
    go_wp2
    go_end0
    exact ⟨rfl, HR.out⟩
  · have hm0 : (0 : Int) < (m : Int) := by
      have : m ≠ 0 := fun e => hl (List.eq_nil_of_length_eq_zero (by omega))
      omega
    have bX := bal (b0 w) (.cells #[.slice D m d] 25)
    have c0 : w.cell? ⟨b, 0, none⟩ = some (.slice A n c) := (h.box.cell 0).trans rfl
    have f0 := h.box.frozen 0
    have HO : Hid (OwnW (w.alloc (.cells #[.slice D m d] 25)) B A n c S) := Lib.hid (h.keep bX).own
    have HC : Hid ((w.alloc (.cells #[.slice D m d] 25)).cell? ⟨w.heap.size, 0, none⟩ = some (.slice D l.length d)) := Lib.hid (by rw [hm]; exact ((boxS_new w 25 #[.slice D m d]).cell 0).trans rfl)
    have HB : Hid (B ≤ (w.alloc (.cells #[.slice D m d] 25)).heap.size) := Lib.hid (by have := h.hB; have := h.box.lt; rw [World.size_alloc]; omega)
    have HF : Hid (∀ (Y : World) (A2 : Option Addr) (c2 : Nat), OwnW Y B A2 (n + 1) c2 (S ++ [⟨l, D, d⟩]) → (w.alloc (.cells #[.slice D m d] 25)).grownBy Y (Value.slice A n c).ownBlock → Gr (w.alloc (.cells #[.slice D m d] 25)) A A2 → WkR w (Y.setCell ⟨b, 0, none⟩ (.slice A2 (n + 1) c2)) B b N A (pushS (ltL S) l)) := Lib.hid fun Y A2 c2 o g gr => by
      unfold pushS
      rw [if_neg hl]
      exact h.push ⟨l, D, d⟩ R hl bX o g gr
    have HZ : Hid (∀ (Y : World), (w.alloc (.cells #[.slice D m d] 25)).grownBy Y (Value.slice A n c).ownBlock → Y.cell? ⟨b, 0, none⟩ = some (.slice A n c) ∧ Y.frozen? ⟨b, 0, none⟩ = false) := Lib.hid fun Y g => by
      have f : Fr (w.alloc (.cells #[.slice D m d] 25)) Y (fun k => ∃ ad, A = some ad ∧ ad.block = k) := Fr.ofG g fun k e => ob_some e
      have k := f.box (h.keep bX).box fun ⟨ad, e, q⟩ => (h.ne ad e).1 q
      exact ⟨(k.cell 0).trans rfl, k.frozen 0⟩
    clear h R hs bX
    go_enter Tryz.func58, Tryz.ntmps58
    go_wp2_with (at_builtin; (refine app_lt rfl (.tmp 11) (.tmp 13) rfl B n c A S ⟨l, D, d⟩ ⟨w.heap.size, 0, none⟩ rfl rfl HO.out HC.out (by omega) HB.out ?_; intro A2 c2 Y o g gr; have HQ := Lib.hid (HF.out Y A2 c2 o g gr); obtain ⟨z0, z1⟩ := HZ.out Y g; clear o g gr))
    go_end0
    exact ⟨rfl, HQ.out⟩
/-! ### next -/
theorem size_ex (W : World) : (sizeOf (Tryz.prog.elem 25)).run Tryz.prog W = .ok 6 W := by kernel_rfl
/-- l[1:] of a list that is not empty. -/
theorem tail_of {w : World} {N : Nat → Prop} {D : Option Addr} {d m : Nat} {x : Ex} {r : List Ex} (R : TrN w N D d (x :: r)) (hm : r.length = m) : ∃ D' : Option Addr, (∀ W : World, (Instr.slice 25 (.slice D (m + 1) d) (some (.int .i64 1)) none none).run Tryz.prog W = .ok (.slice D' m (d - 1)) W) ∧ TrN w N D' (d - 1) r := by
  obtain ⟨ad, rfl, _⟩ := R.at (j := 0) (by simp)
  have hle := R.le
  have hmx := R.mx
  rw [List.length_cons, hm] at hle
  refine ⟨if d = 1 then some ad else some (ad.add 6), fun W => ?_, ?_⟩
  · have := run_slice_l (P := Tryz.prog) W 25 (some ad) (m + 1) d (by kernel_rfl) .i64 ((1 : Nat) : Int) (by omega) (by omega)
    rw [show ((1 : Nat) : Int) = 1 from rfl, size_ex] at this
    rw [this]
    simp [Result.andThen, sliced]
  · by_cases e : d = 1
    · have hr : r = [] := List.eq_nil_of_length_eq_zero (by omega)
      rw [if_pos e, hr]
      exact TrN.empty _ (by omega)
    · rw [if_neg e]
      exact R.tail
theorem slice_pop (A : Addr) (n c : Nat) (hn : n ≤ c) (W : World) : (Instr.slice 102 (.slice (some A) (n + 1) c) none (some (.int .i64 (n : Int))) none).run Tryz.prog W = .ok (.slice (some A) n c) W := by
  have hz : (sizeOf (Tryz.prog.elem 102)).run Tryz.prog W = .ok 1 W := by kernel_rfl
  rw [run_slice_h (P := Tryz.prog) W 102 (some A) (n + 1) c (by kernel_rfl) .i64 (n : Int) (by omega) (by omega), hz]
  simp [Result.andThen, sliced, Addr.add]
/-- What next leaves of a stack that is not empty. -/
def NextR (w w' : World) (B b : Nat) (N : Nat → Prop) (A : Option Addr) (L : List (List Ex)) (x : Ex) (D : Option Addr) (d : Nat) : Prop := WkR w w' B b N A L ∧ TrN w' N D d x.l ∧ OKe x
theorem WkR.trans {w w1 w2 : World} {N : Nat → Prop} {B b : Nat} {A : Option Addr} {L L2 : List (List Ex)} (h : WkR w w1 B b N A L) (k : ∀ A1 n1 c1 S1, Wk w1 B b N A1 n1 c1 S1 → ltL S1 = L → WkR w1 w2 B b N A1 L2) : WkR w w2 B b N A L2 := by
  obtain ⟨A1, n1, c1, S1, h1, h2, h3, h4⟩ := h
  obtain ⟨A2, n2, c2, S2, g1, g2, g3, g4⟩ := k A1 n1 c1 S1 h1 h2
  exact ⟨A2, n2, c2, S2, g1, g2, fr_pb h3 h4 g3, h4.trans g4 h3.size⟩
theorem WkR.below {w w1 w2 : World} {N : Nat → Prop} {B b : Nat} {A : Option Addr} {L : List (List Ex)} (h : WkR w w1 B b N A L) (k : Below w1.heap.size w1 w2) : WkR w w2 B b N A L :=
  h.trans fun A1 n1 c1 S1 h1 h2 => ⟨A1, n1, c1, S1, h1.keep k, h2, Fr.of k _, Gr.refl _ _⟩
theorem WkR.pre {w w1 w2 : World} {N : Nat → Prop} {B b : Nat} {A : Option Addr} {L : List (List Ex)} (h : WkR w1 w2 B b N A L) (k : Below w.heap.size w w1) : WkR w w2 B b N A L := by
  obtain ⟨A1, n1, c1, S1, h1, h2, h3, h4⟩ := h
  exact ⟨A1, n1, c1, S1, h1, h2, (Fr.of k (Pb b A)).trans h3 (fun _ h => h) (fun _ _ h => h), fun ad e => (h4 ad e).imp id fun q => Nat.le_trans k.size q⟩
/-- A box that is no part of the walk's memory. -/
theorem WkR.box {w w1 : World} {N : Nat → Prop} {B b k : Nat} {A : Option Addr} {L : List (List Ex)} {t : TypeId} {cs : Array Value} (h : WkR w w1 B b N A L) (c : BoxS w k t cs) (hk : ¬ Pb b A k) : BoxS w1 k t cs := by
  obtain ⟨A1, n1, c1, S1, h1, h2, h3, h4⟩ := h
  exact h3.box c hk
theorem WkR.tr {w w1 : World} {N : Nat → Prop} {B b n c : Nat} {A D : Option Addr} {d : Nat} {L : List (List Ex)} {S : List Lt} {l : List Ex} (h : WkR w w1 B b N A L) (k : Wk w B b N A n c S) (R : TrN w N D d l) : TrN w1 N D d l := by
  obtain ⟨A1, n1, c1, S1, h1, h2, h3, h4⟩ := h
  exact R.fr h3 fun j _ hj p => p.elim (fun e => k.nb (by rw [← e]; exact hj)) fun ⟨ad, e, q⟩ => (k.ne ad e).2 (by rw [q]; exact hj)
set_option maxRecDepth 100000 in
set_option maxHeartbeats 4000000 in
theorem next_none {w : World} {B b n c : Nat} {N : Nat → Prop} {A : Option Addr} (h : Wk w B b N A n c []) :
    Calls Tryz.prog 38 #[.pointer (some ⟨b, 0, none⟩)] w fun en w' => en = .returned (.tuple #[exV e0 none 0 0, .bool false]) ∧ WkR w w' B b N A [] := by
  have hn : n = 0 := by have := h.len; exact this.symm
  subst hn
  rw [show exV e0 none 0 0 = .agg #[.int .u8 0, .int .u8 0, .int .u8 0, .int .i32 0, .string ⟨#[]⟩, .slice none 0 0] from rfl]
  have c0 : (w.alloc (.cells #[.int .u8 0, .int .u8 0, .int .u8 0, .int .i32 0, .string ⟨#[]⟩, .slice none 0 0] 27)).cell? ⟨b, 0, none⟩ = some (.slice A 0 c) := ((h.keep (bal (b0 w) _)).box.cell 0).trans rfl
  have hb := h.box.lt
  have HR : Hid (WkR w (w.alloc (.cells #[.int .u8 0, .int .u8 0, .int .u8 0, .int .i32 0, .string ⟨#[]⟩, .slice none 0 0] 27)) B b N A []) := Lib.hid ⟨A, 0, c, [], h.keep (bal (b0 w) _), rfl, Fr.of (bal (b0 w) _) _, Gr.refl _ _⟩
  clear h
  go_enter Tryz.func38, Tryz.ntmps38
  go_wp2
  refine bodyPost_ret (v := .tuple #[.agg #[.int .u8 0, .int .u8 0, .int .u8 0, .int .i32 0, .string ⟨#[]⟩, .slice none 0 0], .bool false]) (by simp [results, Tryz.results38, go_sem]) rfl ⟨rfl, HR.out⟩
theorem TrN.hd {w : World} {N : Nat → Prop} {A : Option Addr} {c : Nat} {x : Ex} {r : List Ex} (h : TrN w N A c (x :: r)) : ∃ ad, A = some ad ∧ OKe x ∧ ∃ B d, TrN w N B d x.l ∧ ExAt w ad x B d := by
  obtain ⟨ad, e, _, B, n, d, hl, ok, R, x0, x1, x2, x3, x4, x5⟩ := h.at (j := 0) (by simp)
  have e0 : ad.add (0 * 6) = ad := by unfold Addr.add; simp
  rw [e0] at x0 x1 x2 x3 x4 x5
  have ex : (x :: r).getD 0 L10.e0 = x := rfl
  rw [ex] at *
  subst hl
  exact ⟨ad, e, ok, B, d, R, x0, x1, x2, x3, x4, x5⟩
theorem own_ne_box {W : World} {B n c k : Nat} {A : Option Addr} {S : List Lt} {cs : Array Value} (h : OwnW W B A n c S) (b : BoxS W k 27 cs) : ∀ ad, A = some ad → ad.block ≠ k := by
  intro ad e q
  rcases h.2 with ⟨hv, _⟩ | ⟨g', cap, cur, hv, _, hh, _⟩
  · injection hv with hv1; rw [e] at hv1; cases hv1
  · injection hv with hv1
    rw [e] at hv1
    injection hv1 with hv1
    have hg : g' = k := by rw [← q, hv1]
    rw [hg] at hh
    have hb2 : W.heap[k]? = _ := b
    rw [hh] at hb2
    injection hb2 with hb2
    injection hb2 with _ hb3
    exact absurd hb3 (by decide)
theorem fr_set6 (W : World) (g : Nat) (a b c d e f : Value) : Fr W (set6 W g a b c d e f) (fun k => k = g) := by
  have key : ∀ (X : World) (j : Nat) (v : Value), Fr X (X.setCell ⟨g, j, none⟩ v) (fun k => k = g) := fun X j v =>
    ⟨rfl, rfl, rfl, by show _ ≤ (X.heap.modify g _).size; rw [Array.size_modify]; exact Nat.le_refl _, fun k hk hr => Below.heap_setCell X ⟨g, j, none⟩ v k (fun e => hr (by rw [show k = g from e]))⟩
  have tr : ∀ {X Y Z : World}, Fr X Y (fun k => k = g) → Fr Y Z (fun k => k = g) → Fr X Z (fun k => k = g) := fun h k => h.trans k (fun _ h => h) fun _ _ h => h
  unfold set6
  exact tr (tr (tr (tr (tr (key _ _ _) (key _ _ _)) (key _ _ _)) (key _ _ _)) (key _ _ _)) (key _ _ _)
/-- A world on the way through next. -/
def NxS (w W : World) (B b : Nat) (N : Nat → Prop) (A : Option Addr) (L : List (List Ex)) (D : Option Addr) (d : Nat) (x : Ex) (r : List Ex) (cs : Array Value) : Prop := WkR w W B b N A L ∧ TrN W N D d (x :: r) ∧ BoxS W w.heap.size 27 cs ∧ (¬ N w.heap.size ∧ b < w.heap.size ∧ ∀ ad, A = some ad → ad.block < w.heap.size)
theorem NxS.push {w W : World} {B b : Nat} {N : Nat → Prop} {A D D' : Option Addr} {L : List (List Ex)} {d d' m : Nat} {x : Ex} {r l : List Ex} {cs : Array Value} (h : NxS w W B b N A L D d x r cs) (R : TrN W N D' d' l) (hm : l.length = m) (hs : totS L ≤ 1000000) :
    Calls Tryz.prog 58 #[.pointer (some ⟨b, 0, none⟩), .slice D' m d'] W fun en W' => en = .returned (.tuple #[]) ∧ NxS w W' B b N A (pushS L l) D d x r cs := by
  obtain ⟨⟨A1, n1, c1, S1, h1, h2, h3, h4⟩, h5, h6, h7, h8, h9⟩ := h
  rw [← h2] at hs ⊢
  refine (push_any h1 l R hm hs).mono fun en W' ⟨e, g⟩ => ⟨e, ?_⟩
  have gp : ¬ Pb b A1 w.heap.size := fun p => p.elim (fun e => by omega) fun ⟨ad, e, q⟩ => own_ne_box h1.own h6 ad e q
  have ht : WkR w W' B b N A (pushS (ltL S1) l) := by
    obtain ⟨A2, n2, c2, S2, g1, g2, g3, g4⟩ := g
    exact ⟨A2, n2, c2, S2, g1, g2, fr_pb h3 h4 g3, h4.trans g4 h3.size⟩
  exact ⟨ht, g.tr h1 h5, g.box h6 gp, h7, h8, h9⟩
theorem NxS.fin {w W : World} {B b d e : Nat} {N : Nat → Prop} {A D C : Option Addr} {L : List (List Ex)} {x : Ex} {r : List Ex} {a' b' c' d' e' f' : Value} (h : NxS w W B b N A L D d x r #[a', b', c', d', e', f']) (R : TrN W N C e x.l) (v0 v1 v2 v3 v4 v5 : Value) :
    BoxS (set6 W w.heap.size v0 v1 v2 v3 v4 v5) w.heap.size 27 #[v0, v1, v2, v3, v4, v5] ∧ TrN (set6 W w.heap.size v0 v1 v2 v3 v4 v5) N C e x.l ∧ WkR w (set6 W w.heap.size v0 v1 v2 v3 v4 v5) B b N A L := by
  obtain ⟨⟨A1, n1, c1, S1, h1, h2, h3, h4⟩, h5, h6, h7, h8, h9⟩ := h
  have g := fr_set6 W w.heap.size v0 v1 v2 v3 v4 v5
  have hN : ∀ k, k < W.heap.size → N k → ¬ k = w.heap.size := fun k _ n e => h7 (by rw [← e]; exact n)
  exact ⟨box6_all _ _ _ _ _ _ h6, R.fr g hN, A1, n1, c1, S1, h1.fr g (by omega) (own_ne_box h1.own h6) hN, h2, h3.trans g (fun _ h => h) (fun k hk e => by omega), h4⟩
set_option maxRecDepth 100000 in
set_option maxHeartbeats 8000000 in
theorem next_some {w : World} {B b n c d : Nat} {N : Nat → Prop} {A D : Option Addr} {T : List Lt} {x : Ex} {r : List Ex} (h : Wk w B b N A n c (T ++ [⟨x :: r, D, d⟩])) (hs : totS (ltL (T ++ [⟨x :: r, D, d⟩])) ≤ 1000000) :
    Calls Tryz.prog 38 #[.pointer (some ⟨b, 0, none⟩)] w fun en w' => ∃ C e, en = .returned (.tuple #[exV x C x.l.length e, .bool true]) ∧ TrN w' N C e x.l ∧ OKe x ∧ WkR w w' B b N A (pushS (pushS (ltL T) r) x.l) := by
  obtain ⟨k, hk⟩ : ∃ k, T.length = k := ⟨_, rfl⟩
  have hn : n = k + 1 := by have := h.len; rw [List.length_append] at this; have : T.length + 1 = n := this; omega
  subst hn
  have hk2 : k ≤ 1000000 := by have := len_tot h.nn; rw [List.length_append] at this; omega
  obtain ⟨ad, rfl, hl⟩ := h.own.lastA
  obtain ⟨m, hm⟩ : ∃ m, r.length = m := ⟨_, rfl⟩
  obtain ⟨q, hq⟩ : ∃ q, x.l.length = q := ⟨_, rfl⟩
  have R : TrN w N D d (x :: r) := h.sub ⟨x :: r, D, d⟩ (List.mem_append_right _ (List.mem_singleton_self _))
  obtain ⟨D', hcut, R'⟩ := tail_of R hm
  obtain ⟨a2, rfl, ok, _⟩ := R.hd
  have hle : k ≤ c := by
    rcases h.own.2 with ⟨hv, _⟩ | ⟨g, cap, cur, hv, _, _, hnc, _⟩
    · cases hv
    · injection hv with _ _ h3; omega
  have hpop := slice_pop ad k c hle
  have hb := h.box.lt
  have ha : ad.block < w.heap.size := by have := g_lt hl; rwa [add_block] at this
  have hk0 : (0 : Int) ≤ (k : Int) := by omega
  have hm0 : (0 : Int) ≤ (m : Int) := by omega
  have hw1 : IntKind.i64.wrap ((k : Int) + 1 - 1) = (k : Int) := by rw [show (k : Int) + 1 - 1 = k by omega]; exact IntWalk.i64_in _ (by omega)
  have hkb : (k : Int) ≤ 1000000 := by omega
  have hlt : (k : Int) < (k : Int) + 1 := by omega
  have hm1 : (0 : Int) < (m : Int) + 1 := by omega
  have ht : totS (ltL T) + szL (x :: r) ≤ 1000000 := by
    have : totS (ltL (T ++ [⟨x :: r, some a2, d⟩])) = totS (ltL T ++ [x :: r]) := by simp [ltL]
    rw [this, totS_app, totS, totS] at hs
    exact hs
  have ht2 : szL (x :: r) = 1 + szL x.l + szL r := by rw [szL, szE_eq]
  have hsz : (w.setCell ⟨b, 0, none⟩ (.slice (some ad) k c)).heap.size = w.heap.size := by show (w.heap.modify b _).size = _; rw [Array.size_modify]
  have HW : Hid (NxS w ((w.setCell ⟨b, 0, none⟩ (.slice (some ad) k c)).alloc (.cells #[.int .u8 0, .int .u8 0, .int .u8 0, .int .i32 0, .string ⟨#[]⟩, .slice none 0 0] 27)) B b N (some ad) (ltL T) (some a2) d x r #[.int .u8 0, .int .u8 0, .int .u8 0, .int .i32 0, .string ⟨#[]⟩, .slice none 0 0] ∧ TrN ((w.setCell ⟨b, 0, none⟩ (.slice (some ad) k c)).alloc (.cells #[.int .u8 0, .int .u8 0, .int .u8 0, .int .i32 0, .string ⟨#[]⟩, .slice none 0 0] 27)) N D' (d - 1) r) := Lib.hid (by
    have hp := h.pop
    have bb := bal (b0 (w.setCell ⟨b, 0, none⟩ (.slice (some ad) k c))) (.cells #[.int .u8 0, .int .u8 0, .int .u8 0, .int .i32 0, .string ⟨#[]⟩, .slice none 0 0] 27)
    have hR : ∀ {E : Option Addr} {e : Nat} {l : List Ex}, TrN w N E e l → TrN (w.setCell ⟨b, 0, none⟩ (.slice (some ad) k c)) N E e l := fun R => R.fr (fr_set w b 0 _ (some ad)) fun j _ hj p => p.elim (fun e => h.nb (by rw [← e]; exact hj)) fun ⟨a0, e0, q0⟩ => (h.ne a0 e0).2 (by rw [q0]; exact hj)
    refine ⟨⟨⟨some ad, k, c, T, hp.keep bb, rfl, ?_, Gr.refl _ _⟩, (hR R).keep bb, ?_, fun hn => by have := h.hN _ hn; omega, hb, fun a0 e0 => by injection e0 with e0; rw [← e0]; exact ha⟩, (hR R').keep bb⟩
    · exact (fr_set w b 0 _ (some ad)).trans (Fr.of bb (fun _ => False)) (fun _ h => h) (fun _ _ h => h.elim)
    · have := boxS_new (w.setCell ⟨b, 0, none⟩ (.slice (some ad) k c)) 27 #[.int .u8 0, .int .u8 0, .int .u8 0, .int .i32 0, .string ⟨#[]⟩, .slice none 0 0]
      rwa [hsz] at this)
  have C1 := Lib.hid (HW.out.1.push HW.out.2 hm (by omega))
  have HC2 : Hid (∀ (W : World), NxS w W B b N (some ad) (pushS (ltL T) r) (some a2) d x r #[.int .u8 0, .int .u8 0, .int .u8 0, .int .i32 0, .string ⟨#[]⟩, .slice none 0 0] → ∃ C e, W.cell? ⟨a2.block, a2.off + 5, none⟩ = some (.slice C q e) ∧ Calls Tryz.prog 58 #[.pointer (some ⟨b, 0, none⟩), .slice C q e] W fun en W' => en = .returned (.tuple #[]) ∧ NxS w W' B b N (some ad) (pushS (pushS (ltL T) r) x.l) (some a2) d x r #[.int .u8 0, .int .u8 0, .int .u8 0, .int .i32 0, .string ⟨#[]⟩, .slice none 0 0]) := Lib.hid fun W H => by
    obtain ⟨a3, e3, _, C, e, RC, X⟩ := H.2.1.hd
    injection e3 with e3
    subst e3
    have X5 := X.2.2.2.2.2
    rw [hq] at X5
    exact ⟨C, e, X5, H.push RC hq (by rw [totS_push]; omega)⟩
  have HC3 : Hid (∀ (W : World), NxS w W B b N (some ad) (pushS (pushS (ltL T) r) x.l) (some a2) d x r #[.int .u8 0, .int .u8 0, .int .u8 0, .int .i32 0, .string ⟨#[]⟩, .slice none 0 0] → ∃ C e, (W.cell? a2 = some (.int .u8 (x.k : Int)) ∧ W.cell? ⟨a2.block, a2.off + 1, none⟩ = some (.int .u8 (x.o : Int)) ∧ W.cell? ⟨a2.block, a2.off + 2, none⟩ = some (.int .u8 (x.t : Int)) ∧ W.cell? ⟨a2.block, a2.off + 3, none⟩ = some (.int .i32 x.n)
      ∧ W.cell? ⟨a2.block, a2.off + 4, none⟩ = some (.string (strOf x.s)) ∧ W.cell? ⟨a2.block, a2.off + 5, none⟩ = some (.slice C q e)) ∧ (W.frozen? ⟨w.heap.size, 0, none⟩ = false ∧ W.frozen? ⟨w.heap.size, 1, none⟩ = false ∧ W.frozen? ⟨w.heap.size, 2, none⟩ = false ∧ W.frozen? ⟨w.heap.size, 3, none⟩ = false ∧ W.frozen? ⟨w.heap.size, 4, none⟩ = false ∧ W.frozen? ⟨w.heap.size, 5, none⟩ = false)
      ∧ (W.cell? ⟨w.heap.size, 0, none⟩ = some (.int .u8 0) ∧ W.cell? ⟨w.heap.size, 1, none⟩ = some (.int .u8 0) ∧ W.cell? ⟨w.heap.size, 2, none⟩ = some (.int .u8 0) ∧ W.cell? ⟨w.heap.size, 3, none⟩ = some (.int .i32 0) ∧ W.cell? ⟨w.heap.size, 4, none⟩ = some (.string ⟨#[]⟩) ∧ W.cell? ⟨w.heap.size, 5, none⟩ = some (.slice none 0 0))
      ∧ Hid (∀ X, X = set6 W w.heap.size (.int .u8 (x.k : Int)) (.int .u8 (x.o : Int)) (.int .u8 (x.t : Int)) (.int .i32 x.n) (.string (strOf x.s)) (.slice C q e) → BoxS X w.heap.size 27 #[.int .u8 (x.k : Int), .int .u8 (x.o : Int), .int .u8 (x.t : Int), .int .i32 x.n, .string (strOf x.s), .slice C q e] ∧ TrN X N C e x.l ∧ WkR w X B b N (some ad) (pushS (pushS (ltL T) r) x.l))) := Lib.hid fun W H => by
    obtain ⟨a3, e3, _, C, e, RC, X⟩ := H.2.1.hd
    injection e3 with e3
    subst e3
    obtain ⟨X0, X1, X2, X3, X4, X5⟩ := X
    rw [hq] at X5
    exact ⟨C, e, ⟨X0, X1, X2, X3, X4, X5⟩, box6f H.2.2.1, box6 H.2.2.1, Lib.hid fun X e => by subst e; exact H.fin RC _ _ _ _ _ _⟩
  have c0 : (w.alloc (.cells #[.int .u8 0, .int .u8 0, .int .u8 0, .int .i32 0, .string ⟨#[]⟩, .slice none 0 0] 27)).cell? ⟨b, 0, none⟩ = some (.slice (some ad) (k + 1) c) := ((h.keep (bal (b0 w) _)).box.cell 0).trans rfl
  have l0 : (w.alloc (.cells #[.int .u8 0, .int .u8 0, .int .u8 0, .int .i32 0, .string ⟨#[]⟩, .slice none 0 0] 27)).cell? (ad.add k) = some (.slice (some a2) (m + 1) d) := by
    have := (bal (b0 w) (.cells #[.int .u8 0, .int .u8 0, .int .u8 0, .int .i32 0, .string ⟨#[]⟩, .slice none 0 0] 27)).cell (p := ad.add k) (by rw [add_block]; exact ha)
    rw [this, hl]
    show some (Value.slice (some a2) (r.length + 1) d) = _
    rw [hm]
  have f0 : (w.alloc (.cells #[.int .u8 0, .int .u8 0, .int .u8 0, .int .i32 0, .string ⟨#[]⟩, .slice none 0 0] 27)).frozen? ⟨b, 0, none⟩ = false := (h.keep (bal (b0 w) _)).box.frozen 0
  have HK := Lib.hid (And.intro ok hq)
  clear h hl R R' ok hs ht ht2 hsz HW hm hq hk hk2
  dsimp only [exV]
  rw [HK.out.2]
  generalize strOf x.s = SX at *
  generalize x.k = xk at *
  generalize x.o = xo at *
  generalize x.t = xt at *
  generalize x.n = xn at *
  go_enter Tryz.func38, Tryz.ntmps38
  go_wp2_with (first
    | (go_at_call 58; (with_reducible refine (C1.out).mono ?_); clear C1; rintro e1 W3 ⟨rfl, H⟩; obtain ⟨C, ec, z5, K2⟩ := HC2.out W3 H; have C2 := Lib.hid K2; clear H K2 HC2 c0 l0 f0)
    | (go_at_call 58; (with_reducible refine (C2.out).mono ?_); clear C2 z5; rintro e1 W4 ⟨rfl, H⟩; obtain ⟨E, ee, ⟨z0, z1, z2, z3, z4, z5⟩, ⟨f0, f1, f2, f3, f4, f5⟩, ⟨g0, g1, g2, g3, g4, g5⟩, KF⟩ := HC3.out W4 H; clear H HC3))
  have KQ := Lib.hid (KF.out _ rfl)
  unfold set6 at KQ
  clear KF z0 z1 z2 z3 z4 z5 f0 f1 f2 f3 f4 f5 g0 g1 g2 g3 g4 g5
  generalize (((((W4.setCell ⟨w.heap.size, 0, none⟩ (.int .u8 (xk : Int))).setCell ⟨w.heap.size, 1, none⟩ (.int .u8 (xo : Int))).setCell ⟨w.heap.size, 2, none⟩ (.int .u8 (xt : Int))).setCell ⟨w.heap.size, 3, none⟩ (.int .i32 xn)).setCell ⟨w.heap.size, 4, none⟩ (.string SX)).setCell ⟨w.heap.size, 5, none⟩ (.slice E q ee) = X at *
  obtain ⟨y0, y1, y2, y3, y4, y5⟩ := box6 KQ.out.1
  refine bodyPost_ret (v := .tuple #[.agg #[.int .u8 (xk : Int), .int .u8 (xo : Int), .int .u8 (xt : Int), .int .i32 xn, .string SX, .slice E q ee], .bool true]) (by simp [results, Tryz.results38, go_sem, y0, y1, y2, y3, y4, y5]) rfl ⟨E, ee, rfl, KQ.out.2.1, HK.out.1, KQ.out.2.2⟩
end Go.Proofs.YtplcmcealeeppaaGreatDoor
/- The program's reader of tokens: taking tokens. -/
set_option linter.unusedVariables false
set_option linter.unusedSimpArgs false
namespace Go.Proofs.YtplcmcealeeppaaGreatDoor
open Go Go.RowKit L8 L10

/-- From w on the reader's block alone turned. -/
structure Rs (w w' : World) (b : Nat) (A : Option Addr) (m c p o : Nat) : Prop where
  grw : w.grownBy w' (some b)
  box : BoxS w' b 80 (rdC A m c p o)
theorem Rs.new {w : World} {b m c p o : Nat} {A : Option Addr} {l : List Tk} (h : Rdr w b A m c l p o) : Rs w w b A m c p o := ⟨g_refl w _, h.box⟩
theorem Rs.rdr {w W : World} {b m c p o q r : Nat} {A : Option Addr} {l : List Tk} (k : Rs w W b A m c q r) (h : Rdr w b A m c l p o) : Rdr W b A m c l q r := h.grow k.grw k.box
theorem Rs.below {w W X : World} {b m c p o : Nat} {A : Option Addr} (k : Rs w W b A m c p o) (g : Below W.heap.size W X) : Rs w X b A m c p o := ⟨g_trans k.grw (g_any (g_of_below g) _), k.box.below g⟩
theorem Rs.step {w W X : World} {b m c p o q r : Nat} {A : Option Addr} (k : Rs w W b A m c p o) (g : Rs W X b A m c q r) : Rs w X b A m c q r := ⟨g_trans k.grw g.grw, g.box⟩
theorem Rs.setp {w W : World} {b m c p o : Nat} {A : Option Addr} (k : Rs w W b A m c p o) (q : Nat) {v : Int} (hv : v = (q : Int)) : Rs w (W.setCell ⟨b, 1, none⟩ (.int .i64 v)) b A m c q o := by
  subst hv
  exact ⟨g_trans k.grw (g_set W b 1 _), by have := boxset k.box 1 (.int .i64 (q : Int)); simpa [rdC] using this⟩
theorem Rs.seto {w W : World} {b m c p o : Nat} {A : Option Addr} (k : Rs w W b A m c p o) (q : Nat) {v : Int} (hv : v = (q : Int)) : Rs w (W.setCell ⟨b, 2, none⟩ (.int .i64 v)) b A m c p q := by
  subst hv
  exact ⟨g_trans k.grw (g_set W b 2 _), by have := boxset k.box 2 (.int .i64 (q : Int)); simpa [rdC] using this⟩
theorem Rs.set {w W : World} {b m c p o : Nat} {A : Option Addr} (k : Rs w W b A m c p o) (hb : b < w.heap.size) {j : Nat} (hj : w.heap.size ≤ j) (i : Nat) (v : Value) : Rs w (W.setCell ⟨j, i, none⟩ v) b A m c p o :=
  ⟨k.grw.andThen (g_set W j i v) (fun x e => .inl (by injection e with e; omega)), k.box.kept (g_set W j i v) (fun e => by injection e with e; omega)⟩
theorem Rs.set4 {w W : World} {b m c p o : Nat} {A : Option Addr} (k : Rs w W b A m c p o) (hb : b < w.heap.size) {j : Nat} (hj : w.heap.size ≤ j) (v0 v1 v2 v3 : Value) : Rs w (set4 W j v0 v1 v2 v3) b A m c p o := (((k.set hb hj 0 v0).set hb hj 1 v1).set hb hj 2 v2).set hb hj 3 v3
theorem Rs.set6 {w W : World} {b m c p o : Nat} {A : Option Addr} (k : Rs w W b A m c p o) (hb : b < w.heap.size) {j : Nat} (hj : w.heap.size ≤ j) (v0 v1 v2 v3 v4 v5 : Value) : Rs w (set6 W j v0 v1 v2 v3 v4 v5) b A m c p o := (((((k.set hb hj 0 v0).set hb hj 1 v1).set hb hj 2 v2).set hb hj 3 v3).set hb hj 4 v4).set hb hj 5 v5
/-- A box that is new since w is kept, the reader turning. -/
theorem Rs.kept {w W : World} {b m c p o j : Nat} {A : Option Addr} {t : TypeId} {cs : Array Value} (k : Rs w W b A m c p o) (h : BoxS w j t cs) (hj : b ≠ j) : BoxS W j t cs := h.kept k.grw (fun e => by injection e with e; exact hj e.symm)
theorem Rs.cells {w W : World} {b m c p o : Nat} {A : Option Addr} (k : Rs w W b A m c p o) : (W.cell? ⟨b, 0, none⟩ = some (.slice A m c) ∧ W.cell? ⟨b, 1, none⟩ = some (.int .i64 (p : Int)) ∧ W.cell? ⟨b, 2, none⟩ = some (.int .i64 (o : Int))) ∧ (W.frozen? ⟨b, 1, none⟩ = false ∧ W.frozen? ⟨b, 2, none⟩ = false) ∧ b < W.heap.size :=
  ⟨⟨(k.box.cell 0).trans rfl, (k.box.cell 1).trans rfl, (k.box.cell 2).trans rfl⟩, ⟨k.box.frozen 1, k.box.frozen 2⟩, k.box.lt⟩
/-- A box elsewhere is kept when the reader is written. -/
theorem box_far {W : World} {b i j : Nat} {t : TypeId} {cs : Array Value} (h : BoxS W j t cs) (hj : b ≠ j) (v : Value) : BoxS (W.setCell ⟨b, i, none⟩ v) j t cs := h.kept (g_set W b i v) (fun e => by injection e with e; exact hj e.symm)
set_option maxRecDepth 100000 in
theorem rtake_any {w : World} {b m c p o : Nat} {A : Option Addr} {l : List Tk} (h : Rdr w b A m c l p o) (hp : p ≤ m) : Calls Tryz.prog 95 #[.pointer (some ⟨b, 0, none⟩)] w fun en w' => ∃ a : Int, en = .returned (.agg (NxT (atB l p) a)) ∧ Rs w w' b A m c (p + 1) o := by
  have hmx := h.sm
  have hb := h.box.lt
  have hV := Lib.hid (bal (b0 w) (.cells #[.int .u8 0, .int .i64 0, .string ⟨#[]⟩, .int .i32 0] 47))
  have hX := Lib.hid (boxS_new w 47 #[.int .u8 0, .int .i64 0, .string ⟨#[]⟩, .int .i32 0])
  have hR := Lib.hid ((Rs.new h).below hV.out)
  have CN := Lib.hid (next_any (hR.out.rdr h) hp)
  have hp0 : (0 : Int) ≤ (p : Int) := by omega
  have hp1 : (p : Int) ≤ 4000000 := by omega
  clear h hp hmx
  generalize atB l p = x at *
  obtain ⟨xk, xa, xt, xn⟩ := x
  dsimp only [NxT] at *
  generalize strOf xt = S at *
  generalize hW : w.alloc (.cells #[.int .u8 0, .int .i64 0, .string ⟨#[]⟩, .int .i32 0] 47) = V at *
  have HK : Hid (∀ (W1 : World) (a : Int), Below V.heap.size V W1 → (Rs w (W1.alloc (.cells #[.int .u8 (xk : Int), .int .i64 a, .string S, .int .i32 xn] 47)) b A m c p o) ∧ (Rs w ((W1.alloc (.cells #[.int .u8 (xk : Int), .int .i64 a, .string S, .int .i32 xn] 47)).setCell ⟨b, 1, none⟩ (.int .i64 ((p : Int) + 1))) b A m c (p + 1) o) ∧ BoxS ((W1.alloc (.cells #[.int .u8 (xk : Int), .int .i64 a, .string S, .int .i32 xn] 47)).setCell ⟨b, 1, none⟩ (.int .i64 ((p : Int) + 1))) w.heap.size 47 #[.int .u8 0, .int .i64 0, .string ⟨#[]⟩, .int .i32 0] ∧ BoxS ((W1.alloc (.cells #[.int .u8 (xk : Int), .int .i64 a, .string S, .int .i32 xn] 47)).setCell ⟨b, 1, none⟩ (.int .i64 ((p : Int) + 1))) W1.heap.size 47 #[.int .u8 (xk : Int), .int .i64 a, .string S, .int .i32 xn]) := Lib.hid fun W1 a k => by
    have h1 := (hR.out.below k).below (bal (b0 W1) (.cells #[.int .u8 (xk : Int), .int .i64 a, .string S, .int .i32 xn] 47))
    have hs := (blw hV.out k).size
    exact ⟨h1, h1.setp (p + 1) (by omega), box_far ((hX.out.below k).below (bal (b0 W1) _)) (by omega) _, box_far (boxS_new W1 _ _) (by omega) _⟩
  go_enter Tryz.func95, Tryz.ntmps95
  go_wp2_with (go_at_call 94; (with_reducible refine (CN.out).mono ?_); rintro e1 W1 ⟨a, rfl, k⟩; have H1 := Lib.hid (HK.out W1 a k); clear k; obtain ⟨⟨c0, c1, c2⟩, ⟨cf1, cf2⟩, _⟩ := H1.out.1.cells; obtain ⟨⟨x0, x1, x2, x3⟩, _⟩ := box4 H1.out.2.2.1; obtain ⟨f0, f1, f2, f3⟩ := box4f H1.out.2.2.1; obtain ⟨⟨y0, y1, y2, y3⟩, _⟩ := box4 H1.out.2.2.2)
  clear c0 c1 c2 cf1 cf2 x0 x1 x2 x3 f0 f1 f2 f3 y0 y1 y2 y3
  generalize (W1.alloc (.cells #[.int .u8 (xk : Int), .int .i64 a, .string S, .int .i32 xn] 47)).setCell ⟨b, 1, none⟩ (.int .i64 ((p : Int) + 1)) = W3 at *
  have HF := Lib.hid (And.intro (box4_all (.int .u8 xk) (.int .i64 a) (.string S) (.int .i32 xn) H1.out.2.2.1) (H1.out.2.1.set4 hb (Nat.le_refl _) (.int .u8 xk) (.int .i64 a) (.string S) (.int .i32 xn)))
  unfold Go.Proofs.YtplcmcealeeppaaGreatDoor.set4 at HF
  generalize (((W3.setCell ⟨w.heap.size, 0, none⟩ (.int .u8 xk)).setCell ⟨w.heap.size, 1, none⟩ (.int .i64 a)).setCell ⟨w.heap.size, 2, none⟩ (.string S)).setCell ⟨w.heap.size, 3, none⟩ (.int .i32 xn) = X5 at *
  obtain ⟨⟨y0, y1, y2, y3⟩, yl⟩ := box4 HF.out.1
  refine bodyPost_ret (v := .agg #[.int .u8 xk, .int .i64 a, .string S, .int .i32 xn]) (by simp [results, Tryz.results95, go_sem, y0, y1, y2, y3]) rfl ⟨a, rfl, HF.out.2⟩
theorem field_tx (a b c d : Value) (W : World) : (Instr.field 47 (.agg #[a, b, c, d]) 2).run Tryz.prog W = .ok c W := by kernel_rfl
set_option maxRecDepth 100000 in
theorem rtakes_any {w : World} {b m c p o : Nat} {A : Option Addr} {l : List Tk} (h : Rdr w b A m c l p o) (hp : p ≤ m) (s : Bs) {T : ByteArray} (hT : strOf s = T) : Calls Tryz.prog 67 #[.pointer (some ⟨b, 0, none⟩), .string T] w fun en w' => en = .returned (.bool (decide ((atB l p).tx = s))) ∧ Rs w w' b A m c (if (atB l p).tx = s then p + 1 else p) o := by
  have hmx := h.sm
  have hR := Lib.hid (fun (W : World) (k : Below w.heap.size w W) => And.intro ((Rs.new h).below k) (((Rs.new h).below k).setp (p + 1) (v := (p : Int) + 1) (by omega)))
  have CN := Lib.hid (next_any h hp)
  have hp0 : (0 : Int) ≤ (p : Int) := by omega
  have hp1 : (p : Int) ≤ 4000000 := by omega
  have hq := eqS (atB l p).tx s
  rw [hT] at hq
  clear h hp hmx hT
  generalize atB l p = x at *
  obtain ⟨xk, xa, xt, xn⟩ := x
  dsimp only [NxT] at *
  by_cases he : xt = s
  · simp only [if_pos he, decide_eq_true he] at *
    clear he
    generalize strOf xt = S at *
    have hfl := fun (a : Int) (W : World) => field_tx (.int .u8 (xk : Int)) (.int .i64 a) (.string S) (.int .i32 xn) W
    go_enter Tryz.func67, Tryz.ntmps67
    go_wp2_with (go_at_call 94; (with_reducible refine (CN.out).mono ?_); rintro e1 W1 ⟨a, rfl, k⟩; have H1 := Lib.hid (hR.out W1 k); clear k; obtain ⟨⟨c0, c1, c2⟩, ⟨cf1, cf2⟩, _⟩ := H1.out.1.cells)
    go_ret
    exact ⟨rfl, H1.out.2⟩
  · simp only [if_neg he, decide_eq_false he] at *
    clear he
    generalize strOf xt = S at *
    have hfl := fun (a : Int) (W : World) => field_tx (.int .u8 (xk : Int)) (.int .i64 a) (.string S) (.int .i32 xn) W
    go_enter Tryz.func67, Tryz.ntmps67
    go_wp2_with (go_at_call 94; (with_reducible refine (CN.out).mono ?_); rintro e1 W1 ⟨a, rfl, k⟩; have H1 := Lib.hid (hR.out W1 k); clear k; obtain ⟨⟨c0, c1, c2⟩, ⟨cf1, cf2⟩, _⟩ := H1.out.1.cells)
    go_ret
    exact ⟨rfl, H1.out.1⟩
end Go.Proofs.YtplcmcealeeppaaGreatDoor
/- The program's reader of tokens: names, operators, types. -/
set_option linter.unusedVariables false
set_option linter.unusedSimpArgs false
namespace Go.Proofs.YtplcmcealeeppaaGreatDoor
open Go Go.RowKit L8 L10

/-- The reader ended, with an error. -/
def FailE (er : Int) : Ending := .panicked [{ v := .iface 76 (.agg #[.int .i64 er]), recovered := false }]
set_option maxRecDepth 100000 in
theorem rname_any {w : World} {b m c p o : Nat} {A : Option Addr} {l : List Tk} (h : Rdr w b A m c l p o) (hp : p ≤ m) : Calls Tryz.prog 68 #[.pointer (some ⟨b, 0, none⟩)] w fun en w' => en = (if (atB l p).k = 1 then .returned (.string (strOf (atB l p).tx)) else FailE 100) ∧ Rs w w' b A m c (p + 1) o := by
  have CT := Lib.hid (rtake_any h hp)
  clear h hp
  generalize atB l p = x at *
  obtain ⟨xk, xa, xt, xn⟩ := x
  dsimp only [NxT] at *
  generalize strOf xt = S at *
  have HK : Hid (∀ (W1 : World) (a : Int), Rs w W1 b A m c (p + 1) o → Rs w (W1.alloc (.cells #[.int .u8 (xk : Int), .int .i64 a, .string S, .int .i32 xn] 47)) b A m c (p + 1) o ∧ BoxS (W1.alloc (.cells #[.int .u8 (xk : Int), .int .i64 a, .string S, .int .i32 xn] 47)) W1.heap.size 47 #[.int .u8 (xk : Int), .int .i64 a, .string S, .int .i32 xn]) := Lib.hid fun W1 a k => ⟨k.below (bal (b0 W1) _), boxS_new W1 _ _⟩
  by_cases hk : xk = 1
  · have qk : ((xk : Int) == 1) = true := by simp [hk]
    simp only [if_pos hk]
    clear hk
    go_enter Tryz.func68, Tryz.ntmps68
    go_wp2_with (go_at_call 95; (with_reducible refine (CT.out).mono ?_); rintro e1 W1 ⟨a, rfl, k⟩; have H1 := Lib.hid (HK.out W1 a k); clear k; obtain ⟨⟨y0, y1, y2, y3⟩, _⟩ := box4 H1.out.2)
    go_ret
    exact ⟨rfl, H1.out.1⟩
  · have qk0 : ¬ (xk : Int) = 1 := by omega
    have qk : ((xk : Int) == 1) = false := by simp only [beq_eq_false_iff_ne]; exact qk0
    simp only [if_neg hk]
    clear hk
    go_enter Tryz.func68, Tryz.ntmps68
    go_wp2_with (go_at_call 95; (with_reducible refine (CT.out).mono ?_); rintro e1 W1 ⟨a, rfl, k⟩; have H1 := Lib.hid (HK.out W1 a k); clear k; obtain ⟨⟨y0, y1, y2, y3⟩, _⟩ := box4 H1.out.2)
    exact ⟨rfl, rfl, H1.out.1⟩
set_option maxRecDepth 100000 in
theorem roper_any {w : World} {b m c p o : Nat} {A : Option Addr} {l : List Tk} (h : Rdr w b A m c l p o) (hp : p ≤ m) {a z n : Nat} (ha : 1 ≤ a) (hz : z ≤ 26) (hn : a + n = z + 1) : Calls Tryz.prog 71 #[.pointer (some ⟨b, 0, none⟩), .int .u8 (a : Int), .int .u8 (z : Int)] w fun en w' => en = .returned (.int .u8 ((findO (atB l p) a n : Nat) : Int)) ∧ Rs w w' b A m c (if findO (atB l p) a n = 0 then p else p + 1) o := by
  have hmx := h.sm
  have hR := Lib.hid (fun (W : World) (k : Below w.heap.size w W) => And.intro ((Rs.new h).below k) (And.intro (((Rs.new h).below k).setp (p + 1) (v := (p : Int) + 1) (by omega)) (h.t10.below k)))
  have CN := Lib.hid (next_any h hp)
  have hp0 : (0 : Int) ≤ (p : Int) := by omega
  have hp1 : (p : Int) ≤ 4000000 := by omega
  have HT := Lib.hid (fun (j : Nat) (h1 : a ≤ j) (h2 : j ≤ z) => tx_mk (at_z l p) (o := j) (by omega) (by omega))
  have HQ := Lib.hid (fun j : Nat => eqS (opW j) (atB l p).tx)
  have HAt : Hid (∀ (W : World) (j : Nat), a ≤ j → j ≤ z → atB l p = mk j → (∀ i, a ≤ i → i < j → atB l p ≠ mk i) → Rs w W b A m c (p + 1) o → Ending.returned (.int .u8 (j : Int)) = Ending.returned (.int .u8 ((findO (atB l p) a n : Nat) : Int)) ∧ Rs w W b A m c (if findO (atB l p) a n = 0 then p else p + 1) o) := Lib.hid fun W j h1 h2 h3 h4 h5 => by
    rw [find_at h1 (by omega) h3 h4, if_neg (by omega)]
    exact ⟨rfl, h5⟩
  have HNo : Hid (∀ (W : World), (∀ i, a ≤ i → i < z + 1 → atB l p ≠ mk i) → Rs w W b A m c p o → Ending.returned (.int .u8 0) = Ending.returned (.int .u8 ((findO (atB l p) a n : Nat) : Int)) ∧ Rs w W b A m c (if findO (atB l p) a n = 0 then p else p + 1) o) := Lib.hid fun W h1 h5 => by
    rw [find_none (fun i g1 g2 => h1 i g1 (by omega))]
    exact ⟨rfl, h5⟩
  clear h hp hmx
  generalize (if findO (atB l p) a n = 0 then p else p + 1) = q at *
  generalize findO (atB l p) a n = F at *
  generalize atB l p = x at *
  have hz0 : (0 : Int) ≤ (z : Int) := by omega
  have hz1 : (z : Int) ≤ 26 := by omega
  have ha0 : (1 : Int) ≤ (a : Int) := by omega
  have haz : a ≤ z + 1 := by omega
  clear hn
  have hS : Hid (strOf x.tx = strOf x.tx) := Lib.hid rfl
  obtain ⟨xk, xa, xt, xn⟩ := x
  dsimp only [NxT] at *
  generalize strOf xt = S at *
  clear hS
  have hfl := fun (a : Int) (W : World) => field_tx (.int .u8 (xk : Int)) (.int .i64 a) (.string S) (.int .i32 xn) W
  go_enter Tryz.func71, Tryz.ntmps71
  go_wp2_with (go_at_call 94; (with_reducible refine (CN.out).mono ?_); rintro e1 W1 ⟨ta, rfl, k⟩; have H1 := Lib.hid (hR.out W1 k); clear k; obtain ⟨⟨c0, c1, c2⟩, ⟨cf1, cf2⟩, _⟩ := H1.out.1.cells)
  go_loopw [8] (fun ι wr => ∃ j : Nat, a ≤ j ∧ j ≤ z + 1 ∧ ι = .int .u8 (j : Int) ∧ Hid (∀ i, a ≤ i → i < j → (⟨xk, xa, xt, xn⟩ : Tk) ≠ mk i) ∧ wr = W1) (fun ι _ => z + 1 - (intOf ι).toNat)
  case atStart => exact ⟨a, Nat.le_refl _, haz, rfl, Lib.hid fun i g1 g2 => by omega, rfl⟩
  case round =>
    obtain ⟨j, hj, hjz, rfl, HB, rfl⟩ := hrel
    have hj0 : (0 : Int) ≤ (j : Int) := by omega
    have hj1 : (j : Int) ≤ 27 := by omega
    by_cases hlt : (j : Int) ≤ (z : Int)
    · have hc := H1.out.2.2.op (o := j) (by omega)
      have hq := HQ.out j
      have ht := HT.out j hj (by omega)
      have hj2 : (j : Int) < 27 := by omega
      generalize strOf (opW j) = T at *
      by_cases he : xt = opW j
      · rw [decide_eq_true he.symm] at hq
        have HE := Lib.hid (ht.1 he)
        clear he ht
        go_wp2
        go_ret
        exact HAt.out _ j hj (by omega) HE.out HB.out H1.out.2.1
      · rw [decide_eq_false (fun e => he e.symm)] at hq
        have HE := Lib.hid (fun e => he (ht.2 e))
        clear he ht
        go_wp2
        go_roundw
        case rel => exact ⟨j + 1, by omega, by omega, by go_num, Lib.hid fun i g1 g2 => (Nat.lt_or_ge i j).elim (fun g => HB.out i g1 g) (fun g => by
            obtain rfl : i = j := by omega
            exact HE.out), trivial⟩
        case measure => simp [intOf]; omega
    · go_wp2
      go_ret
      exact HNo.out _ (fun i g1 g2 => HB.out i g1 (by omega)) H1.out.1
set_option maxRecDepth 100000 in
theorem rtype_any {w : World} {b m c p o : Nat} {A : Option Addr} {l : List Tk} (h : Rdr w b A m c l p o) (hp : p ≤ m) : Calls Tryz.prog 69 #[.pointer (some ⟨b, 0, none⟩)] w fun en w' => en = .returned (.int .u8 ((typeOf (atB l p) : Nat) : Int)) ∧ Rs w w' b A m c (if typeOf (atB l p) = 0 then p else p + 1) o := by
  have hmx := h.sm
  have hR := Lib.hid (fun (W : World) (k : Below w.heap.size w W) => And.intro ((Rs.new h).below k) (And.intro (((Rs.new h).below k).setp (p + 1) (v := (p : Int) + 1) (by omega)) (h.t10.below k)))
  have CN := Lib.hid (next_any h hp)
  have hp0 : (0 : Int) ≤ (p : Int) := by omega
  have hp1 : (p : Int) ≤ 4000000 := by omega
  have HT := Lib.hid (fun (j : Nat) (h1 : 1 ≤ j) (h2 : j ≤ 3) => tx_wd (at_z l p) (k := j) h1 h2)
  have HQ := Lib.hid (fun j : Nat => eqS (wd j) (atB l p).tx)
  have HAt : Hid (∀ (W : World) (j : Nat), 1 ≤ j → j ≤ 3 → atB l p = kw (wd j) → (∀ i, 1 ≤ i → i < j → atB l p ≠ kw (wd i)) → Rs w W b A m c (p + 1) o → Ending.returned (.int .u8 (j : Int)) = Ending.returned (.int .u8 ((typeOf (atB l p) : Nat) : Int)) ∧ Rs w W b A m c (if typeOf (atB l p) = 0 then p else p + 1) o) := Lib.hid fun W j h1 h2 h3 h4 h5 => by
    rw [type_at h1 h2 h3 h4, if_neg (by omega)]
    exact ⟨rfl, h5⟩
  have HNo : Hid (∀ (W : World), (∀ i, 1 ≤ i → i < 4 → atB l p ≠ kw (wd i)) → Rs w W b A m c p o → Ending.returned (.int .u8 0) = Ending.returned (.int .u8 ((typeOf (atB l p) : Nat) : Int)) ∧ Rs w W b A m c (if typeOf (atB l p) = 0 then p else p + 1) o) := Lib.hid fun W h1 h5 => by
    rw [type_none h1]
    exact ⟨rfl, h5⟩
  clear h hp hmx
  generalize (if typeOf (atB l p) = 0 then p else p + 1) = q at *
  generalize typeOf (atB l p) = F at *
  generalize atB l p = x at *
  have hS : Hid (strOf x.tx = strOf x.tx) := Lib.hid rfl
  obtain ⟨xk, xa, xt, xn⟩ := x
  dsimp only [NxT] at *
  generalize strOf xt = S at *
  clear hS
  have hfl := fun (a : Int) (W : World) => field_tx (.int .u8 (xk : Int)) (.int .i64 a) (.string S) (.int .i32 xn) W
  go_enter Tryz.func69, Tryz.ntmps69
  go_wp2_with (go_at_call 94; (with_reducible refine (CN.out).mono ?_); rintro e1 W1 ⟨ta, rfl, k⟩; have H1 := Lib.hid (hR.out W1 k); clear k; obtain ⟨⟨c0, c1, c2⟩, ⟨cf1, cf2⟩, _⟩ := H1.out.1.cells)
  go_loopw [4] (fun ι wr => ∃ j : Nat, 1 ≤ j ∧ j ≤ 3 + 1 ∧ ι = .int .u8 (j : Int) ∧ Hid (∀ i, 1 ≤ i → i < j → (⟨xk, xa, xt, xn⟩ : Tk) ≠ kw (wd i)) ∧ wr = W1) (fun ι _ => 4 - (intOf ι).toNat)
  case atStart => exact ⟨1, Nat.le_refl _, by omega, rfl, Lib.hid fun i g1 g2 => by omega, rfl⟩
  case round =>
    obtain ⟨j, hj, hjz, rfl, HB, rfl⟩ := hrel
    have hj0 : (1 : Int) ≤ (j : Int) := by omega
    have hj1 : (j : Int) ≤ 4 := by omega
    by_cases hlt : (j : Int) ≤ 3
    · have hc := H1.out.2.2.ty (k := j) (by omega) (by omega)
      have hq := HQ.out j
      have ht := HT.out j hj (by omega)
      have hj2 : (j : Int) < 4 := by omega
      generalize strOf (wd j) = T at *
      by_cases he : xt = wd j
      · rw [decide_eq_true he.symm] at hq
        have HE := Lib.hid (ht.1 he)
        clear he ht
        go_wp2
        go_ret
        exact HAt.out _ j hj (by omega) HE.out HB.out H1.out.2.1
      · rw [decide_eq_false (fun e => he e.symm)] at hq
        have HE := Lib.hid (fun e => he (ht.2 e))
        clear he ht
        go_wp2
        go_roundw
        case rel => exact ⟨j + 1, by omega, by omega, by go_num, Lib.hid fun i g1 g2 => (Nat.lt_or_ge i j).elim (fun g => HB.out i g1 g) (fun g => by
            obtain rfl : i = j := by omega
            exact HE.out), trivial⟩
        case measure => simp [intOf]; omega
    · go_wp2
      go_ret
      exact HNo.out _ (fun i g1 g2 => HB.out i g1 (by omega)) H1.out.1
end Go.Proofs.YtplcmcealeeppaaGreatDoor
