/- The reference: the text of tokens. -/
import Derived.Deep.LoopGhost
import Derived.Test.YtbkbhlbfkfnljaaGreatDoorM07
import Derived.Test.YtbkbhlbfkfnljaaGreatDoorM09
import Derived.Test.YtbkbhlbfkfnljaaGreatDoorLxg
import Derived.Test.YtbkbhlbfkfnljaaGreatDoorLxf
set_option linter.unusedVariables false
set_option linter.unusedSimpArgs false
set_option linter.unusedVariables false
set_option linter.unusedSimpArgs false
namespace Go.Proofs.YtbkbhlbfkfnljaaGreatDoor
open Go Go.RowKit L8

def GivesX (w : World) (l : List Tk) (e : Ending) (w' : World) : Prop := e = .returned (.tuple #[.string (strOf (text l).1), .int .i64 (text l).2]) ∧ Below w.heap.size w w'
theorem text_arg {l : List Tk} {k : Nat} (h : k < l.length) (hm : may (l.getD k r0) = false) : text l = ([], 2) := by
  unfold text
  rw [if_neg]
  intro ha
  rw [List.all_eq_true] at ha
  rw [ha _ (getD_mem h)] at hm
  cases hm
theorem all_of {l : List Tk} (h : ∀ j, j < l.length → may (l.getD j r0) = true) : l.all may = true := by
  rw [List.all_eq_true]
  intro x hx
  obtain ⟨i, hi, rfl⟩ := List.getElem_of_mem hx
  have := h i hi
  rwa [List.getD_eq_getElem?_getD, List.getElem?_eq_getElem hi] at this
theorem text_long {l : List Tk} (h : l.all may = true) (hl : 256 < (textT l).length) : text l = ([], 3) := by
  unfold text; rw [if_pos h, if_neg (by omega)]
theorem text_ok {l : List Tk} (h : l.all may = true) (hl : (textT l).length ≤ 256) : text l = (textT l, 0) := by
  unfold text; rw [if_pos h, if_pos hl]
theorem rwV_eq (t : Tk) : rwV t = .agg #[.int .u8 (t.k : Int), .int .i64 t.a, .string (strOf t.tx), .int .i32 t.n] := rfl
theorem may_byte {t : Tk} (h : may t = true) : t.k = 4 → 0 ≤ t.n ∧ t.n ≤ 255 := by
  intro hk
  obtain ⟨_, _, hp⟩ := may_parts h
  rcases hp with h | h | h | h | h
  all_goals first | omega | exact ⟨h.2.2.1, h.2.2.2⟩
theorem one_le {t : Tk} (h : may t = true) (hx : OKx t) : (one t).length ≤ 60 := by
  have hk : ∀ s ∈ keys, s.length ≤ 20 := by decide
  have hs : ∀ s ∈ syms, s.length ≤ 20 := by decide
  obtain ⟨_, _, hp⟩ := may_parts h
  have e : t.tx.length ≤ 40 := by
    rcases hp with ⟨h1, h2, _⟩ | ⟨h1, h2, _⟩ | ⟨h1, h2⟩ | ⟨h1, h2, _⟩ | ⟨h1, h2, _⟩
    · unfold isName at h2
      simp only [Bool.and_eq_true, decide_eq_true_eq] at h2
      omega
    · have := hk _ (isKey_mem h2); omega
    · rw [h2]; simp
    · rw [h2]; simp
    · have := hs _ (isSym_mem h2); omega
  unfold one
  split
  · have := (text_len t.n (decide (t.n < 0)) hx.2.2.1 hx.2.2.2).2; omega
  · split
    · have := (shown_len t.n).2; simp only [List.length_cons, List.length_append, List.length_nil]; omega
    · omega
theorem text_first {l : List Tk} {k : Nat} (hk : k = 0) (h : k < l.length) : textT (l.take (k + 1)) = textT (l.take k) ++ one (l.getD k r0) := by
  subst hk
  rw [textT_one (x := l.getD 0 r0) (by rw [List.getD_eq_getElem?_getD, List.getElem?_eq_getElem h]; rfl)]
  simp [textT]
end Go.Proofs.YtbkbhlbfkfnljaaGreatDoor
/- The program: the text of tokens. -/
set_option linter.unusedVariables false
set_option linter.unusedSimpArgs false
namespace Go.Proofs.YtbkbhlbfkfnljaaGreatDoor
open Go Go.RowKit L8

def lastT (l : List Tk) : Nat → Tk
  | 0 => r0
  | j + 1 => l.getD j r0
theorem kind_no0 {t : Tk} (h : may t = true) : t.k ≠ 0 := by
  obtain ⟨_, _, hp⟩ := may_parts h
  omega
theorem text_step {l : List Tk} {j : Nat} (hj : j < l.length) (hm : ∀ i, i < l.length → may (l.getD i r0) = true) : textT (l.take (j + 1)) = (if spB (lastT l j) (l.getD j r0) = true then textT (l.take j) ++ [32] else textT (l.take j)) ++ one (l.getD j r0) := by
  cases j with
  | zero =>
    rw [text_first rfl hj]
    have : spB (lastT l 0) (l.getD 0 r0) = false := spB_0 rfl
    rw [this, if_neg (by decide)]
  | succ p =>
    have h1 := textT_snoc (l := l) (j := p) (d := r0) hj
    rw [show p + 2 = p + 1 + 1 from rfl] at h1
    rw [h1]
    have h2 : spB (lastT l (p + 1)) (l.getD (p + 1) r0) = !near (l.getD p r0) (l.getD (p + 1) r0) := by
      unfold spB
      rw [if_neg (show ¬ (lastT l (p + 1)).k = 0 from kind_no0 (hm p (by omega)))]
      rfl
    rw [h2]
    unfold sep
    cases near (l.getD p r0) (l.getD (p + 1) r0)
    · rw [if_neg (by decide), if_pos (by decide), List.append_assoc]; rfl
    · rw [if_pos rfl, if_neg (by decide)]
/-! ### The builder and the boxes -/
theorem bld_new (w : World) : BldI w.heap.size w.heap.size [] (w.alloc (.cells #[.pointer none, .slice none 0 0] 63)) := Lib.fresh_isBuilder 63 5 w
theorem bldI_keepG {n b B : Nat} {l : Bs} {w w' : World} {cs : Array Value} (h : BldI n b l w) (hx : BoxS w B 39 cs) (g : w.grownBy w' (some B)) : BldI n b l w' := by
  have key : ∀ p, Lib.BuilderAt 63 5 n b p (Lib.byteCells l) w → Lib.BuilderAt 63 5 n b p (Lib.byteCells l) w' := by
    rintro p ⟨hB, v, hb, ho, hn⟩
    have hne : b ≠ B := by
      rintro rfl
      unfold BoxS at hx
      rw [hb] at hx
      injection hx with hx
      injection hx with _ hx
      exact absurd hx (by decide)
    refine ⟨hB, v, (g.block b (Array.getElem?_eq_some_iff.1 hb).1 (fun e => hne (by injection e))).trans hb, World.ownsRow.kept ho g ?_, hn⟩
    rcases ho.2 with ⟨rfl, _⟩ | ⟨gg, cap, cur, rfl, _, hgb, _⟩
    · exact .inl rfl
    · refine .inr (fun e => ?_)
      obtain rfl : gg = B := by simpa [Value.ownBlock] using e
      unfold BoxS at hx
      rw [hgb] at hx
      injection hx with hx
      injection hx with _ hx
      exact absurd hx (by decide)
  exact h.imp (key _) (key _)
def TxS (w1 X : World) (t : Bs) (y : Tk) : Prop := Below w1.heap.size w1 X ∧ BldI w1.heap.size w1.heap.size t X ∧ BoxS X (w1.heap.size + 1) 39 (bxT y)
def TxB (w1 X : World) (t : Bs) (y : Tk) (q : Nat) (x : Tk) : Prop := TxS w1 X t y ∧ BoxS X q 39 (bxT x) ∧ w1.heap.size + 1 < q
theorem TxS.new (w1 : World) : TxS w1 ((w1.alloc (.cells #[.pointer none, .slice none 0 0] 63)).alloc (.cells #[.int .u8 0, .int .i64 0, .string ⟨#[]⟩, .int .i32 0] 39)) [] r0 := by
  refine ⟨bal (bal (b0 w1) _) _, bldI_keep (bld_new w1) (bal (b0 _) _), ?_⟩
  have := boxS_new (w1.alloc (.cells #[.pointer none, .slice none 0 0] 63)) 39 #[.int .u8 0, .int .i64 0, .string ⟨#[]⟩, .int .i32 0]
  rw [World.size_alloc] at this
  exact this
theorem TxS.box {w1 X : World} {t : Bs} {y : Tk} (h : TxS w1 X t y) (x : Tk) : TxB w1 (X.alloc (.cells (bxT x) 39)) t y X.heap.size x :=
  ⟨⟨h.1.alloc h.1.size _, bldI_keep h.2.1 (bal (b0 X) _), BoxS.alloc h.2.2 _⟩, boxS_new X _ _, h.2.2.lt⟩
theorem TxB.space {w1 X Y : World} {t : Bs} {y x : Tk} {q : Nat} (h : TxB w1 X t y q x) (hb : BoxS Y (w1.heap.size + 1) 39 (bxT x)) (g : X.grownBy Y (some (w1.heap.size + 1))) : TxB w1 Y t x q x :=
  ⟨⟨h.1.1.trans (below_g g (by omega) h.1.1.size), bldI_keepG h.1.2.1 h.1.2.2 g, hb⟩, h.2.1.kept g (fun e => by injection e with e; have := h.2.2; omega), h.2.2⟩
theorem TxB.wrote {w1 X Y : World} {t t' : Bs} {y x : Tk} {q : Nat} (h : TxB w1 X t y q x) (u : BldU w1.heap.size w1.heap.size t' Y) (b : Below w1.heap.size X Y) (k : Kb w1.heap.size X Y) : TxB w1 Y t' y q x :=
  ⟨⟨h.1.1.trans b, Or.inr u, k _ _ _ (by omega) (by decide) h.1.2.2⟩, k _ _ _ (by have := h.2.2; omega) (by decide) h.2.1, h.2.2⟩
theorem TxB.below {w1 X Y : World} {t : Bs} {y x : Tk} {q : Nat} (h : TxB w1 X t y q x) (k : Below X.heap.size X Y) : TxB w1 Y t y q x :=
  ⟨⟨h.1.1.trans (k.mono h.1.1.size), bldI_keep h.1.2.1 k, h.1.2.2.below k⟩, h.2.1.below k, h.2.2⟩
theorem TxB.cells {w1 X : World} {t : Bs} {y : Tk} {q k : Nat} {a n : Int} {tx : Bs} (h : TxB w1 X t y q ⟨k, a, tx, n⟩) : X.cell? ⟨q, 0, none⟩ = some (.int .u8 (k : Int)) ∧ X.cell? ⟨q, 1, none⟩ = some (.int .i64 a) ∧ X.cell? ⟨q, 2, none⟩ = some (.string (strOf tx)) ∧ X.cell? ⟨q, 3, none⟩ = some (.int .i32 n) := (box4 h.2.1).1
set_option maxRecDepth 100000 in
set_option maxHeartbeats 16000000 in
theorem Text_any {A : Option Addr} {c m : Nat} {l : List Tk} {w : World} (R : RR w A c l) (hm : l.length = m) (ht : W1.Tab w) : Calls Tryz.prog 7 #[.slice A m c] w (GivesX w l) := by
  have HR := Lib.hid R
  have HM := Lib.hid hm
  have HTab := Lib.hid ht
  have hmx : m ≤ maxLen := by have := R.le; have := R.mx; omega
  unfold maxLen at hmx
  have HA := Lib.hid (fun (k : Nat) (h : k < m) (hx : may (l.getD k r0) = false) => text_arg (l := l) (k := k) (by omega) hx)
  have HAll := Lib.hid (fun (h : ∀ j, j < m → may (l.getD j r0) = true) => all_of (l := l) (fun j hj => h j (by omega)))
  have CM := Lib.hid (fun (k : Nat) (W : World) => May_any (l.getD k r0) (R.ok.get k) W)
  have CSp := Lib.hid (fun (W : World) => spacing_any W)
  have hent : ∀ (args : Array Value) (W : World), (callFunc 38 args).run Tryz.prog W = .ok (.enter 38 args) W := enters_of Tryz.func38 (by kernel_rfl) rfl
  unfold GivesX
  clear R hm ht
  go_enter Tryz.func7, Tryz.ntmps7
  go_wp2
  go_loopw [12] (fun i wr => ∃ k : Nat, k ≤ m ∧ i = .int .i64 k ∧ Hid (Below w.heap.size w wr ∧ ∀ j, j < k → may (l.getD j r0) = true)) (fun i _ => m - (intOf i).toNat)
  case atStart => exact ⟨0, Nat.zero_le _, rfl, Lib.hid ⟨b0 w, fun j hj => absurd hj (by omega)⟩⟩
  case round =>
    obtain ⟨k, hk, rfl, H⟩ := hrel
    have hk0 : (0 : Int) ≤ (k : Int) := by omega
    by_cases hlt : (k : Int) < (m : Int)
    · obtain ⟨ad, rfl, c0, c1, c2, c3⟩ := (HR.out.keep H.out.1).rd k (by have := HM.out; omega)
      have C := Lib.hid (CM.out k)
      have HX := Lib.hid (fun h => HA.out k (by omega) h)
      have HY := Lib.hid (show may (l.getD k r0) = true → ∀ j, j < k + 1 → may (l.getD j r0) = true from fun h j hj => if h2 : j < k then H.out.2 j h2 else by rw [show j = k by omega]; exact h)
      have HB := Lib.hid H.out.1
      clear H
      rw [rwV_eq] at C
      generalize l.getD k r0 = x at *
      obtain ⟨xk, xa, xt, xn⟩ := x
      dsimp only at *
      generalize strOf xt = S at *
      cases hmay : may ⟨xk, xa, xt, xn⟩ with
      | false =>
        rw [hmay] at C
        have HE := Lib.hid (HX.out hmay)
        clear HX HY hmay
        go_wp2_with (go_at_call 21; (with_reducible refine (C.out _).mono ?_); rintro e v1 ⟨rfl, b⟩; have B1 := Lib.hid (blw (bal HB.out (.cells #[.int .u8 (xk : Int), .int .i64 xa, .string S, .int .i32 xn] 39)) b); clear b)
        go_ret2
        rw [HE.out]
        exact ⟨rfl, B1.out⟩
      | true =>
        rw [hmay] at C
        have HE := Lib.hid (HY.out hmay)
        clear HX HY hmay
        go_wp2_with (go_at_call 21; (with_reducible refine (C.out _).mono ?_); rintro e v1 ⟨rfl, b⟩; have B1 := Lib.hid (And.intro (blw (bal HB.out (.cells #[.int .u8 (xk : Int), .int .i64 xa, .string S, .int .i32 xn] 39)) b) HE.out); clear b)
        go_roundw
        case rel => exact ⟨k + 1, by omega, by go_num, B1⟩
        case measure => simp [intOf]; omega
    · obtain rfl : k = m := by omega
      have HT := Lib.hid (HAll.out H.out.2)
      have HB := Lib.hid H.out.1
      have HMay := Lib.hid (show ∀ j, j < k → may (l.getD j r0) = true from H.out.2)
      have HS := Lib.hid (fun (j : Nat) (h : j < k) => text_step (l := l) (j := j) (by have := HM.out; omega) (fun i hi => HMay.out i (by have := HM.out; omega)))
      have HLg := Lib.hid (fun (i : Nat) (h : 256 < (textT (l.take i)).length) => text_long (l := l) HT.out (by have := textT_take l i; omega))
      have HOk := Lib.hid (fun (h : (textT l).length ≤ 256) => text_ok (l := l) HT.out h)
      have HAll2 := Lib.hid (show l.take k = l from List.take_of_length_le (by have := HM.out; omega))
      have CO := Lib.hid (fun (i : Nat) (h : i < k) (W : World) (hW : W1.Tab W) => textOf_any (l.getD i r0) (HR.out.ok.get i) (may_byte (HMay.out i h)) W hW)
      have HLe := Lib.hid (fun (i : Nat) (h : i < k) => one_le (HMay.out i h) (HR.out.ok.get i))
      have HT1 := Lib.hid (HTab.out.below HB.out)
      clear H CM HA HAll hlt HT
      have HV := Lib.hid (TxS.new wr)
      go_wp2_with (go_at_call 22; (with_reducible refine (CSp.out _).mono ?_); rintro e v1 ⟨rfl, rfl⟩)
      generalize (wr.alloc (.cells #[.pointer none, .slice none 0 0] 63)).alloc (.cells #[.int .u8 0, .int .i64 0, .string ⟨#[]⟩, .int .i32 0] 39) = V at *
      generalize wr = w1 at *
      clear CSp
      go_loopw [23] (fun i wr => ∃ j : Nat, j ≤ k ∧ i = .int .i64 j ∧ (textT (l.take j)).length ≤ 256 ∧ Hid (TxS w1 wr (textT (l.take j)) (lastT l j))) (fun i _ => k - (intOf i).toNat)
      case atStart => exact ⟨0, Nat.zero_le _, rfl, by simp [textT], HV⟩
      case round =>
        obtain ⟨j, hj, rfl, h256, H⟩ := hrel
        have hj0 : (0 : Int) ≤ (j : Int) := by omega
        by_cases hlt : (j : Int) < (k : Int)
        · obtain ⟨ad, rfl, c0, c1, c2, c3⟩ := (HR.out.keep (blw HB.out H.out.1)).rd j (by have := HM.out; omega)
          have hok := HR.out.ok.get j
          have hoky : OKx (lastT l j) := by cases j with | zero => exact okx_r0 | succ p => exact HR.out.ok.get p
          have hst := HS.out j (by omega)
          have hle := HLe.out j (by omega)
          have HX := Lib.hid (H.out.box (l.getD j r0))
          have COf := Lib.hid (fun (X : World) (t : Bs) (y : Tk) (h : TxB w1 X t y wr.heap.size (l.getD j r0)) => (CO.out j (by omega) X (HT1.out.below h.1.1)).mono fun e w' g => And.intro g.1 (h.below g.2))
          have HLg1 := Lib.hid (fun (h : 256 < (textT (l.take (j + 1))).length) => HLg.out (j + 1) h)
          have hlast : lastT l (j + 1) = l.getD j r0 := rfl
          obtain ⟨N, hN⟩ : ∃ N, (textT (l.take (j + 1))).length = N := ⟨_, rfl⟩
          have HNx := Lib.hid hN
          clear H HS HLg CO HLe
          rw [rwV_eq] at COf
          generalize l.getD j r0 = x at *
          generalize lastT l j = y at *
          generalize textT (l.take j) = t at *
          have CSc : Hid (∀ X, TxB w1 X t y wr.heap.size x → Calls Tryz.prog 38 #[rwV x, .pointer (some ⟨w1.heap.size + 1, 0, none⟩)] X fun e w' => e = .returned (.bool (spB y x)) ∧ TxB w1 w' t x wr.heap.size x) := Lib.hid fun X h => (space_any x y hok hoky h.1.2.2).mono fun e w' g => ⟨g.1, h.space g.2.1 g.2.2⟩
          have CWb : Hid (∀ X, TxB w1 X t x wr.heap.size x → Calls Tryz.prog 23 #[.pointer (some ⟨w1.heap.size, 0, none⟩), .int .u8 32] X fun e w' => e = .returned .nilIface ∧ TxB w1 w' (t ++ [32]) x wr.heap.size x) := Lib.hid fun X h => (writeByte_any w1.heap.size w1.heap.size t X h.1.2.1 (by omega) h.1.1.size).mono fun e w' g => ⟨g.1, h.wrote g.2.1 g.2.2.1 g.2.2.2⟩
          have CWs : Hid (∀ X t', t'.length ≤ 300 → TxB w1 X t' x wr.heap.size x → Calls Tryz.prog 24 #[.pointer (some ⟨w1.heap.size, 0, none⟩), .string (strOf (one x))] X fun e w' => e = .returned (.tuple #[.int .i64 ((one x).length : Int), .nilIface]) ∧ TxB w1 w' (t' ++ one x) x wr.heap.size x) := Lib.hid fun X t' hl h => (write_any w1.heap.size w1.heap.size t' (one x) X h.1.2.1 (by omega) h.1.1.size).mono fun e w' g => ⟨g.1, h.wrote g.2.1 g.2.2.1 g.2.2.2⟩
          have CLn : Hid (∀ X t', t'.length = N → TxB w1 X t' x wr.heap.size x → Calls Tryz.prog 26 #[.pointer (some ⟨w1.heap.size, 0, none⟩)] X fun e w' => e = .returned (.int .i64 (N : Int)) ∧ X = w') := Lib.hid fun X t' hl h => (Tryz.Builder_Len w1.heap.size w1.heap.size (Lib.byteCells t') X h.1.2.1).mono fun e w' g => ⟨by rw [g.1, Lib.byteCells_length, hl], g.2.symm⟩
          have HFin : Hid (∀ X t', t' = textT (l.take (j + 1)) → TxB w1 X t' x wr.heap.size x → TxS w1 X (textT (l.take (j + 1))) (lastT l (j + 1))) := Lib.hid fun X t' e h => by rw [hlast, ← e]; exact h.1
          have HBel : Hid (∀ X t', TxB w1 X t' x wr.heap.size x → Below w.heap.size w X) := Lib.hid fun X t' h => blw HB.out h.1.1
          clear hok hoky hlast
          rw [rwV_eq] at CSc
          generalize hT1 : textT (l.take (j + 1)) = T1 at *
          have HTe := Lib.hid hT1
          clear hT1
          unfold bxT at HX
          obtain ⟨xk, xa, xt, xn⟩ := x
          have HCl := Lib.hid (fun X t' (h : TxB w1 X t' ⟨xk, xa, xt, xn⟩ wr.heap.size ⟨xk, xa, xt, xn⟩) => h.cells)
          dsimp only at *
          generalize strOf xt = S at *
          have hN0 : (0 : Int) ≤ (N : Int) := by omega
          cases hsp : spB y ⟨xk, xa, xt, xn⟩ with
          | true =>
            rw [hsp] at CSc hst
            rw [if_pos rfl] at hst
            have L1 := Lib.hid (show (t ++ [32]).length ≤ 300 by rw [List.length_append, List.length_cons, List.length_nil]; omega)
            have L2 := Lib.hid (show (t ++ [32] ++ one ⟨xk, xa, xt, xn⟩).length = N by rw [← hst]; exact hN)
            have HF := Lib.hid (fun X h => HFin.out X _ hst.symm h)
            clear hsp hst hN HFin hle
            by_cases hlong : (256 : Int) < (N : Int)
            all_goals
              generalize strOf (one ⟨xk, xa, xt, xn⟩) = S3 at *
              go_wp2_with (first
                | (go_at_call 38; (with_reducible refine (CSc.out _ HX.out).mono ?_); rintro e v1 ⟨rfl, b⟩; have H1 := Lib.hid b; clear b)
                | (go_at_call 23; (with_reducible refine (CWb.out _ H1.out).mono ?_); rintro e v2 ⟨rfl, b⟩; have H2 := Lib.hid b; clear b; obtain ⟨x0, x1, x2, x3⟩ := HCl.out _ _ H2.out)
                | (go_at_call 25; (with_reducible refine (COf.out _ _ _ H2.out).mono ?_); rintro e v3 ⟨rfl, b⟩; have H3 := Lib.hid b; clear b)
                | (go_at_call 24; (with_reducible refine (CWs.out _ _ L1.out H3.out).mono ?_); rintro e v4 ⟨rfl, b⟩; have H4 := Lib.hid b; clear b)
                | (go_at_call 26; (with_reducible refine (CLn.out _ _ L2.out H4.out).mono ?_); rintro e v5 ⟨rfl, rfl⟩))
            · go_ret2
              rw [HLg1.out (by have := HNx.out; omega)]
              exact ⟨rfl, HBel.out _ _ H4.out⟩
            · go_roundw
              case rel => exact ⟨j + 1, by omega, by go_num, by rw [HTe.out]; have := HNx.out; omega, Lib.hid (by rw [HTe.out]; exact HF.out _ H4.out)⟩
              case measure => simp [intOf]; omega
          | false =>
            rw [hsp] at CSc hst
            rw [if_neg (by decide)] at hst
            have L1 := Lib.hid (show t.length ≤ 300 by omega)
            have L2 := Lib.hid (show (t ++ one ⟨xk, xa, xt, xn⟩).length = N by rw [← hst]; exact hN)
            have HF := Lib.hid (fun X h => HFin.out X _ hst.symm h)
            clear hsp hst hN HFin hle
            by_cases hlong : (256 : Int) < (N : Int)
            all_goals
              generalize strOf (one ⟨xk, xa, xt, xn⟩) = S3 at *
              go_wp2_with (first
                | (go_at_call 38; (with_reducible refine (CSc.out _ HX.out).mono ?_); rintro e v1 ⟨rfl, b⟩; have H2 := Lib.hid b; clear b; obtain ⟨x0, x1, x2, x3⟩ := HCl.out _ _ H2.out)
                | (go_at_call 25; (with_reducible refine (COf.out _ _ _ H2.out).mono ?_); rintro e v3 ⟨rfl, b⟩; have H3 := Lib.hid b; clear b)
                | (go_at_call 24; (with_reducible refine (CWs.out _ _ L1.out H3.out).mono ?_); rintro e v4 ⟨rfl, b⟩; have H4 := Lib.hid b; clear b)
                | (go_at_call 26; (with_reducible refine (CLn.out _ _ L2.out H4.out).mono ?_); rintro e v5 ⟨rfl, rfl⟩))
            · go_ret2
              rw [HLg1.out (by have := HNx.out; omega)]
              exact ⟨rfl, HBel.out _ _ H4.out⟩
            · go_roundw
              case rel => exact ⟨j + 1, by omega, by go_num, by rw [HTe.out]; have := HNx.out; omega, Lib.hid (by rw [HTe.out]; exact HF.out _ H4.out)⟩
              case measure => simp [intOf]; omega
        · obtain rfl : j = k := by omega
          have h3 := H.out.2.1
          rw [HAll2.out] at h256 h3
          have CSt := Lib.hid (show Calls Tryz.prog 27 #[.pointer (some ⟨w1.heap.size, 0, none⟩)] wr (fun e w' => e = .returned (.string (strOf (textT l))) ∧ Below w.heap.size w w') from (Tryz.Builder_String_any w1.heap.size w1.heap.size (textT l) wr h3 H.out.1.size).mono fun e w' g => ⟨g.1, blw HB.out (H.out.1.trans g.2)⟩)
          have HE := Lib.hid (show strOf (text l).1 = strOf (textT l) ∧ (text l).2 = 0 by rw [HOk.out h256]; exact ⟨rfl, rfl⟩)
          clear H h3
          generalize strOf (textT l) = S at *
          go_wp2_with (go_at_call 27; (with_reducible refine (CSt.out).mono ?_); rintro e v1 ⟨rfl, b⟩; have B1 := Lib.hid b; clear b)
          go_ret2
          rw [HE.out.1, HE.out.2]
          exact ⟨rfl, B1.out⟩
end Go.Proofs.YtbkbhlbfkfnljaaGreatDoor
/- The laws' helpers and examples. -/
set_option linter.unusedVariables false
set_option linter.unusedSimpArgs false
namespace Go.Proofs.YtbkbhlbfkfnljaaGreatDoor
open Go Go.RowKit L8

/-! ### Tokens that are made -/
theorem tokens_okl (s : Bs) : ∀ t ∈ (tokens s).1, may t = true ∧ OKn t := by
  intro t ht
  unfold tokens at ht
  by_cases h : 256 < s.length
  · rw [if_pos h] at ht; cases ht
  · rw [if_neg h] at ht
    cases hq : toks s 0 with
    | error p => rw [hq] at ht; cases ht
    | ok l => rw [hq] at ht; exact toks_may _ s 0 l (Nat.le_refl _) (by omega) hq t ht
theorem okl_tokens (s : Bs) : OKL (tokens s).1 := fun t ht => may_okx (tokens_okl s t ht).1 (tokens_okl s t ht).2
/-- Tokens' answer as letters. -/
theorem Tokens_at {s : Bs} {l : List Tk} {n e : Int} (hl : s.length ≤ maxLen) (w : World) (ht : W1.Tab w) (h : tokens s = (l, n, e)) : Calls Tryz.prog 8 #[.string (strOf s)] w fun en w' => ∃ A c, en = .returned (.tuple #[.slice A l.length c, .int .i64 n, .int .i64 e]) ∧ OwnR w' 39 w.heap.size A l.length c l ∧ Below w.heap.size w w' := by
  have := Tokens_any s hl w ht
  unfold GivesT at this
  rw [h] at this
  exact this
theorem okl_at {s : Bs} {l : List Tk} {n e : Int} (h : tokens s = (l, n, e)) : OKL l := by
  have := okl_tokens s
  rw [h] at this
  exact this
def tx1 : List Tk := [⟨3, 0, [], -1⟩, ⟨5, 0, [43], 0⟩, ⟨4, 0, [], 0⟩]
theorem okl_tx1 : OKL tx1 := by
  intro x hx
  simp only [tx1, List.mem_cons, List.not_mem_nil, or_false] at hx
  rcases hx with rfl | rfl | rfl
  all_goals (unfold OKx maxLen; decide)
theorem text_tx1 : text tx1 = ([35, 70, 70, 70, 70, 70, 70, 70, 70, 32, 43, 32, 39, 42, 35, 48, 48, 39], 0) := by decide +kernel
def tx2 : List Tk := [⟨1, 0, [102], 0⟩, ⟨5, 0, [40], 0⟩, ⟨1, 0, [97], 0⟩, ⟨5, 0, [44], 0⟩, ⟨1, 0, [98], 0⟩, ⟨5, 0, [91], 0⟩, ⟨3, 0, [], 1⟩, ⟨5, 0, [93], 0⟩, ⟨5, 0, [41], 0⟩]
theorem okl_tx2 : OKL tx2 := by
  intro x hx
  simp only [tx2, List.mem_cons, List.not_mem_nil, or_false] at hx
  rcases hx with rfl | rfl | rfl | rfl | rfl | rfl | rfl | rfl | rfl
  all_goals (unfold OKx maxLen; decide)
theorem text_tx2 : text tx2 = ([102, 40, 97, 44, 32, 98, 91, 49, 93, 41], 0) := by decide +kernel
def rd1 : List Tk := [⟨1, 0, [97], 0⟩, ⟨5, 0, [58, 61], 0⟩, ⟨1, 0, [98], 0⟩, ⟨5, 0, [62, 60], 0⟩, ⟨3, 0, [], 255⟩]
theorem okl_rd1 : OKL rd1 := by
  intro x hx
  simp only [rd1, List.mem_cons, List.not_mem_nil, or_false] at hx
  rcases hx with rfl | rfl | rfl | rfl | rfl
  all_goals (unfold OKx maxLen; decide)
def rd2 : List Tk := [⟨4, 0, [], 10⟩, ⟨4, 0, [], 10⟩, ⟨4, 0, [], 39⟩]
theorem okl_rd2 : OKL rd2 := by
  intro x hx
  simp only [rd2, List.mem_cons, List.not_mem_nil, or_false] at hx
  rcases hx with rfl | rfl | rfl
  all_goals (unfold OKx maxLen; decide)
def rd3 : List Tk := [⟨1, 0, [99], 0⟩, ⟨5, 0, [33], 0⟩, ⟨5, 0, [45], 0⟩, ⟨3, 0, [], 1⟩]
theorem okl_rd3 : OKL rd3 := by
  intro x hx
  simp only [rd3, List.mem_cons, List.not_mem_nil, or_false] at hx
  rcases hx with rfl | rfl | rfl | rfl
  all_goals (unfold OKx maxLen; decide)
def rd4 : List Tk := [⟨1, 0, [73, 78, 84, 46, 120], 0⟩, ⟨2, 0, [73, 78, 84], 0⟩]
theorem okl_rd4 : OKL rd4 := by
  intro x hx
  simp only [rd4, List.mem_cons, List.not_mem_nil, or_false] at hx
  rcases hx with rfl | rfl
  all_goals (unfold OKx maxLen; decide)
end Go.Proofs.YtbkbhlbfkfnljaaGreatDoor
/- LexAgain, LexJoins, LexBytes: their walks. -/
set_option linter.unusedVariables false
set_option linter.unusedSimpArgs false
namespace Go.Proofs.YtbkbhlbfkfnljaaGreatDoor
open Go Go.RowKit L8

theorem tokens_ways (s : Bs) : (256 < s.length ∧ tokens s = ([], 0, 3)) ∨ (s.length ≤ 256 ∧ ∃ p, toks s 0 = .error p ∧ tokens s = ([], (p : Int), 80)) ∨ (s.length ≤ 256 ∧ ∃ l, toks s 0 = .ok l ∧ tokens s = (l, 0, 0)) := by
  by_cases h : 256 < s.length
  · exact .inl ⟨h, tokens_long h⟩
  · right
    cases ht : toks s 0 with
    | error p => exact .inl ⟨by omega, p, rfl, tokens_err h ht⟩
    | ok l => exact .inr ⟨by omega, l, rfl, tokens_ok h ht⟩
theorem all_may {l : List Tk} (h : ∀ t ∈ l, may t = true ∧ OKn t) : l.all may = true := List.all_eq_true.2 fun t ht => (h t ht).1
theorem okl_may {l : List Tk} (h : ∀ t ∈ l, may t = true ∧ OKn t) : OKL l := fun t ht => may_okx (h t ht).1 (h t ht).2
theorem put_len (p : Nat) (l : List Tk) : (put p l).length = l.length := by
  have := congrArg List.length (kern_put p l)
  simpa [kern] using this
/-- Text's answer as letters. -/
theorem Text_at {A : Option Addr} {c m : Nat} {l : List Tk} {S : Bs} {er : Int} {w : World} (R : RR w A c l) (hm : l.length = m) (ht : W1.Tab w) (h : text l = (S, er)) : Calls Tryz.prog 7 #[.slice A m c] w fun e w' => e = .returned (.tuple #[.string (strOf S), .int .i64 er]) ∧ Below w.heap.size w w' := by
  have := Text_any R hm ht
  unfold GivesX at this
  rw [h] at this
  exact this
/-- The state of a law: what it reads stays, the table stays. -/
def St1 (w X : World) (A : Option Addr) (c : Nat) (l : List Tk) : Prop := Below w.heap.size w X ∧ W1.Tab X ∧ RR X A c l
theorem St1.step {w X Y : World} {A : Option Addr} {c : Nat} {l : List Tk} (h : St1 w X A c l) (b : Below X.heap.size X Y) : St1 w Y A c l := ⟨blw h.1 b, h.2.1.below b, h.2.2.keep b⟩
theorem St1.tab {w X : World} {A : Option Addr} {c : Nat} {l : List Tk} (h : St1 w X A c l) : W1.Tab X := h.2.1
theorem St1.rr {w X : World} {A : Option Addr} {c : Nat} {l : List Tk} (h : St1 w X A c l) : RR X A c l := h.2.2
def St2 (w X : World) (A : Option Addr) (c : Nat) (l : List Tk) (A2 : Option Addr) (c2 : Nat) (l2 : List Tk) : Prop := St1 w X A c l ∧ RR X A2 c2 l2
theorem St2.step {w X Y : World} {A A2 : Option Addr} {c c2 : Nat} {l l2 : List Tk} (h : St2 w X A c l A2 c2 l2) (b : Below X.heap.size X Y) : St2 w Y A c l A2 c2 l2 := ⟨h.1.step b, h.2.keep b⟩
theorem St2.tab {w X : World} {A A2 : Option Addr} {c c2 : Nat} {l l2 : List Tk} (h : St2 w X A c l A2 c2 l2) : W1.Tab X := h.1.2.1
theorem St2.rr1 {w X : World} {A A2 : Option Addr} {c c2 : Nat} {l l2 : List Tk} (h : St2 w X A c l A2 c2 l2) : RR X A c l := h.1.2.2
theorem St2.rr2 {w X : World} {A A2 : Option Addr} {c c2 : Nat} {l l2 : List Tk} (h : St2 w X A c l A2 c2 l2) : RR X A2 c2 l2 := h.2
end Go.Proofs.YtbkbhlbfkfnljaaGreatDoor
