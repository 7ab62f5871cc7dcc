/- The reference: room, Valid, Value. -/
import Derived.Deep.RegionLaw
import Derived.Deep.CutRange
import Derived.Test.YtblckajejohlbaaDoorM08
import Derived.Test.YtblckajejohlbaaDoorM07
import Derived.Test.YtblckajejohlbaaDoorM06
import Derived.Test.YtblckajejohlbaaDoorM05
set_option linter.unusedVariables false
set_option linter.unusedSimpArgs false
set_option linter.unusedVariables false
set_option linter.unusedSimpArgs false
namespace Go.Proofs.YtblckajejohlbaaDoor
open Go Go.RowKit L8 L22 L17
open L14 (inW)

/-- What is left of so many behind a tree; -1: it does not fit. -/
def rmX (e : Kx) (r d : Nat) : Int := if fitX e r d = true then (r : Int) - (szX e : Int) else -1
theorem rm_no {e : Kx} {r d : Nat} (h : fitX e r d = false) : rmX e r d = -1 := by unfold rmX; rw [h]; rfl
theorem rm_yes {e : Kx} {r d : Nat} (h : fitX e r d = true) : rmX e r d = ((r - szX e : Nat) : Int) := by
  unfold rmX
  have := (fit_iff.1 h).2.2
  rw [if_pos h]
  omega
set_option maxRecDepth 100000 in
set_option maxHeartbeats 8000000 in
theorem RRoom_any : ∀ e : Kx, ∀ (A : Option Addr) (n c : Nat) (r d : Nat) (w : World), KrR w A c e.l → e.l.length = n → OKk e → r ≤ 256 → d ≤ 32 → Calls Tryd.prog 52 #[kxV e A n c, .int .i64 ((32 - d : Nat) : Int), .int .i64 (r : Int)] w fun en w' => en = .returned (.int .i64 (rmX e r d)) ∧ Below w.heap.size w w' := by
  refine Kx.ind fun e ih A n c r d w R hn hok hr hd => ?_
  have HN := Lib.hid hn
  have hmx : n ≤ maxLen := by have := R.le; have := R.mx; omega
  unfold maxLen at hmx
  have HV := Lib.hid (KS.new (n := n) R)
  have HBel := Lib.hid HV.out.bel
  have CO := Lib.hid (fun (W : World) => ROwn_any e hok A n c hn W)
  have hr0 : (0 : Int) ≤ (r : Int) := by omega
  have hr256 : (r : Int) ≤ 256 := by omega
  obtain ⟨D, hD⟩ : ∃ D : Int, ((32 - d : Nat) : Int) = D := ⟨_, rfl⟩
  have hD0 : 0 ≤ D := by omega
  have hD1 : D ≤ 32 := by omega
  have q0 : (D == 32) = decide (d = 0) := by
    by_cases h : d = 0
    · rw [decide_eq_true h]; simp; omega
    · rw [decide_eq_false h]; simp; omega
  have q1 : ((r : Int) == 0) = decide (r = 0) := nat_eqK r 0
  rw [hD]
  by_cases h2 : d = 0
  · rw [rm_no (fit_first (.inr (.inl (by omega))))]
    rw [decide_eq_true h2] at q0
    clear ih R CO hok h2 q1 hn hD
    dsimp only [kxV, kxC] at *
    go_enter Tryd.func52, Tryd.ntmps52
    go_wp2
    go_ret
    exact ⟨rfl, HBel.out⟩
  rw [decide_eq_false h2] at q0
  by_cases h1 : r = 0
  · rw [rm_no (fit_first (.inl (by omega)))]
    rw [decide_eq_true h1] at q1
    clear ih R CO hok h1 h2 hn hD
    dsimp only [kxV, kxC] at *
    go_enter Tryd.func52, Tryd.ntmps52
    go_wp2
    go_ret
    exact ⟨rfl, HBel.out⟩
  rw [decide_eq_false h1] at q1
  cases ho : shX e with
  | false =>
    rw [rm_no (fit_first (.inr (.inr ho)))]
    rw [ho] at CO
    clear ih R hok h1 h2 ho hn hD
    dsimp only [kxV, kxC] at *
    obtain ⟨p0, p1, p2, p3, p4, p5⟩ := HV.out.box
    go_enter Tryd.func52, Tryd.ntmps52
    go_wp2_with (go_at_call 71; (with_reducible refine (CO.out _).mono ?_); rintro en w2 ⟨rfl, b⟩; have H2 := Lib.hid (HV.out.step b); clear b)
    go_ret
    exact ⟨rfl, H2.out.bel⟩
  | true =>
    rw [ho] at CO
    obtain ⟨d, rfl⟩ : ∃ k, d = k + 1 := ⟨d - 1, by omega⟩
    have IH : Hid (∀ j, j < n → ∀ (B : Option Addr) (m f : Nat) (lf : Nat) (X : World), KrR X B f (e.l.getD j k0).l → (e.l.getD j k0).l.length = m → OKk (e.l.getD j k0) → lf ≤ 256 → Calls Tryd.prog 52 #[kxV (e.l.getD j k0) B m f, .int .i64 (D + 1), .int .i64 (lf : Int)] X fun en w' => en = .returned (.int .i64 (rmX (e.l.getD j k0) lf d)) ∧ Below X.heap.size X w') := Lib.hid fun j hj B m f lf X R h ok h0 => by
      have := ih _ (memK (by omega)) B m f lf d X R h ok h0 (by omega)
      rwa [show ((32 - d : Nat) : Int) = D + 1 by omega] at this
    have U0 := Lib.hid (upto_zero (e := e) (r := r) (d := d) (by omega))
    have UN := Lib.hid fun i (h : upto e r d i) (hi : i < e.l.length) (hf : fitX (e.l.getD i k0) (r - (1 + szK (e.l.take i))) d = true) => upto_next h hi hf
    have US := Lib.hid fun i (h : upto e r d i) => h.2
    have UZ := Lib.hid fun i (hi : i < e.l.length) => (show 1 + szK (e.l.take (i + 1)) = 1 + szK (e.l.take i) + szX (e.l.getD i k0) by rw [szK_take hi]; omega)
    have UE := Lib.hid fun (h : upto e r d n) => (show rmX e r (d + 1) = ((r - (1 + szK (e.l.take n)) : Nat) : Int) by
      rw [← HN.out] at h
      rw [rm_yes (upto_end h ho), ← HN.out, List.take_length, szX_eq])
    have UF := Lib.hid fun i (hi : i < e.l.length) (hf : fitX (e.l.getD i k0) (r - (1 + szK (e.l.take i))) d = false) => rm_no (upto_fail (r := r) (d := d) hi hf)
    have hz0 : 1 + szK (e.l.take 0) = 1 := by simp [szK]
    have hr1 : (1 : Int) ≤ (r : Int) := by omega
    have hD2 : D ≤ 31 := by omega
    have hrw : ((r - 1 : Nat) : Int) = (r : Int) - 1 := by omega
    clear ih R hok h1 h2 ho hn hD
    generalize rmX e r (d + 1) = F at *
    dsimp only [kxV, kxC] at *
    obtain ⟨p0, p1, p2, p3, p4, p5⟩ := HV.out.box
    go_enter Tryd.func52, Tryd.ntmps52
    go_wp2_with (go_at_call 71; (with_reducible refine (CO.out _).mono ?_); rintro en w2 ⟨rfl, b⟩; have H2 := Lib.hid (HV.out.step b); clear b)
    go_loopw [2, 7] (fun z ι wr => ∃ j : Nat, j ≤ n ∧ z = .int .i64 ((r - (1 + szK (e.l.take j)) : Nat) : Int) ∧ ι = .int .i64 j ∧ Hid (upto e r d j) ∧ Hid (KS w wr e A n c)) (fun _ ι _ => n - (intOf ι).toNat)
    case atStart => exact ⟨0, Nat.zero_le _, by rw [hz0, hrw], rfl, U0, H2⟩
    case round =>
      obtain ⟨j, hj, rfl, rfl, HU, H⟩ := hrel
      have hj0 : (0 : Int) ≤ (j : Int) := by omega
      have hs := US.out j HU.out
      obtain ⟨p0, p1, p2, p3, p4, p5⟩ := H.out.box
      clear p0 p1 p2 p3 p4
      by_cases hlt : (j : Int) < (n : Int)
      · obtain ⟨ad, rfl, B, m, f, hm, hok, Rc, x0, x1, x2, x3, x4, x5⟩ := H.out.tr.at (j := j) (by have := HN.out; omega)
        have hjn : j < e.l.length := by have := HN.out; omega
        have C := IH.out j (by omega) B m f (r - (1 + szK (e.l.take j))) _ Rc hm hok (by omega)
        have hz := UZ.out j hjn
        cases hft : fitX (e.l.getD j k0) (r - (1 + szK (e.l.take j))) d with
        | false =>
          have hF3 := Lib.hid (UF.out j hjn hft)
          rw [rm_no hft] at C
          have C := Lib.hid C
          clear hft hz Rc hm hok
          generalize r - (1 + szK (e.l.take j)) = s at *
          generalize e.l.getD j k0 = y at *
          go_wp2_with (go_at_call 52; (with_reducible refine (C.out).mono ?_); rintro e1 w3 ⟨rfl, b⟩; have H3 := Lib.hid (H.out.step b); clear b)
          go_ret
          rw [hF3.out]
          exact ⟨rfl, H3.out.bel⟩
        | true =>
          have HU3 := Lib.hid (UN.out j HU.out hjn hft)
          have hfs := (fit_iff.1 hft).2.2
          rw [rm_yes hft] at C
          have C := Lib.hid C
          have he := Lib.hid (show r - (1 + szK (e.l.take (j + 1))) = r - (1 + szK (e.l.take j)) - szX (e.l.getD j k0) by rw [hz]; omega)
          clear hft hz Rc hm hok hfs
          have hv0 : (0 : Int) ≤ ((r - (1 + szK (e.l.take j)) - szX (e.l.getD j k0) : Nat) : Int) := by omega
          generalize hsz : r - (1 + szK (e.l.take j)) - szX (e.l.getD j k0) = v at *
          clear hsz
          generalize r - (1 + szK (e.l.take j)) = s at *
          generalize e.l.getD j k0 = y at *
          go_wp2_with (go_at_call 52; (with_reducible refine (C.out).mono ?_); rintro e1 w3 ⟨rfl, b⟩; have H3 := Lib.hid (H.out.step b); clear b)
          go_roundw
          case rel => exact ⟨j + 1, by omega, by rw [he.out], by go_num, HU3, H3⟩
          case measure => simp [intOf]; omega
      · obtain rfl : j = n := by omega
        have HE := Lib.hid (UE.out HU.out)
        go_wp2
        go_ret
        rw [HE.out]
        exact ⟨rfl, H.out.bel⟩
theorem RValid_any (e : Kx) (A : Option Addr) (n c : Nat) (w : World) (R : KrR w A c e.l) (hn : e.l.length = n) (hok : OKk e) : Calls Tryd.prog 25 #[kxV e A n c] w fun en w' => en = .returned (.bool (mayX e)) ∧ Below w.heap.size w w' := by
  have HV := Lib.hid (KS.new (n := n) R)
  have C : Hid (∀ X, KS w X e A n c → Calls Tryd.prog 52 #[kxV e A n c, .int .i64 0, .int .i64 256] X fun en w' => en = .returned (.int .i64 (rmX e 256 32)) ∧ Below X.heap.size X w') := Lib.hid fun X h => RRoom_any e A n c 256 32 X h.tr hn hok (by omega) (by omega)
  have e1 : decide (0 ≤ rmX e 256 32) = mayX e := by
    unfold mayX
    cases h : fitX e 256 32 with
    | true => rw [rm_yes h]; exact decide_eq_true (by omega)
    | false => rw [rm_no h]; rfl
  rw [← e1]
  clear R hn hok e1
  generalize rmX e 256 32 = u at *
  dsimp only [kxV, kxC] at *
  obtain ⟨p0, p1, p2, p3, p4, p5⟩ := HV.out.box
  go_enter Tryd.func25, Tryd.ntmps25
  go_wp2_with (go_at_call 52; (with_reducible refine (C.out _ HV.out).mono ?_); rintro en w2 ⟨rfl, b⟩; have H2 := Lib.hid (HV.out.step b); clear b)
  go_ret
  exact ⟨rfl, H2.out.bel⟩
set_option maxRecDepth 100000 in
set_option maxHeartbeats 4000000 in
theorem RValue_any (s : St) (S : Option Addr) (sn sc : Nat) (hs : s.length = sn) (e : Kx) (A : Option Addr) (n c : Nat) (w : World) (R : KrR w A c e.l) (hok : OKk e) (hn : e.l.length = n) (T : StR w S sc s) : Calls Tryd.prog 20 #[.slice S sn sc, kxV e A n c] w fun en w' => en = .returned (apR (valK s e)) ∧ Below w.heap.size w w' := by
  have HV := Lib.hid (VS.new (n := n) R T)
  have CM := RValid_any e A n c _ HV.out.tr hn hok
  have HP := Lib.hid fun X (H : Hid (VS w X e A n c s S sc)) => H.out.box
  obtain ⟨p0, p1, p2, p3, p4, p5⟩ := HV.out.box
  cases hm : mayX e with
  | false =>
    rw [hm] at CM
    have CM := Lib.hid CM
    rw [valK_no hm]
    clear R T hok hn hm
    unfold apR
    dsimp only [kxV, kxC] at *
    go_enter Tryd.func20, Tryd.ntmps20
    go_wp2_with (go_at_call 25; (with_reducible refine (CM.out).mono ?_); rintro en w2 ⟨rfl, b⟩; have H2 := Lib.hid (HV.out.step b); clear b)
    go_ret2
    exact ⟨rfl, H2.out.bel⟩
  | true =>
    rw [hm] at CM
    have CM := Lib.hid CM
    rw [valK_is hm]
    have C := Lib.hid fun X (H : Hid (VS w X e A n c s S sc)) => RVal_any s S sn sc hs T.w e (may_iff.1 hm).1 hok A n c X H.out.tr hn H.out.st
    generalize vlX s e = y at *
    clear R T hok hn hm
    unfold apR at *
    dsimp only [kxV, kxC] at *
    go_enter Tryd.func20, Tryd.ntmps20
    go_wp2_with (first
      | (go_at_call 25; (with_reducible refine (CM.out).mono ?_); rintro en w2 ⟨rfl, b⟩; have H2 := Lib.hid (HV.out.step b); clear b; clear p0 p1 p2 p3 p4 p5; obtain ⟨p0, p1, p2, p3, p4, p5⟩ := HP.out _ H2)
      | (go_at_call 48; (with_reducible refine (C.out _ H2).mono ?_); rintro en w3 ⟨rfl, b⟩; have H3 := Lib.hid (H2.out.step b); clear b))
    go_ret2
    exact ⟨rfl, H3.out.bel⟩
end Go.Proofs.YtblckajejohlbaaDoor
/- The reference: Put, Store. -/
set_option linter.unusedVariables false
set_option linter.unusedSimpArgs false
namespace Go.Proofs.YtblckajejohlbaaDoor
open Go Go.RowKit L8 L22 L17
open L14 (inW)

set_option maxRecDepth 10000 in
/-- One list appended to a row of lists. -/
theorem app_list {w : World} {ops : Array Oper} {rest : List Oper} {o : Oper} {a : Act} {Q : Exit → Act → World → Prop} (hgd : o.guard = none) (s x : Operand)
    (ho : o.op = .call { callee := .builtin .append, args := #[s, x], argTypes := #[23, 23] }) (base n c q : Nat) (A : Option Addr) (vs : List Value) (U : Value) (hs : a.eval s = .slice A n c) (hx : a.eval x = .slice (some ⟨q, 0, none⟩) 1 1)
    (hown : w.ownsRow base 54 1 (.slice A n c) n vs) (hc : BoxS w q 54 #[U]) (h1 : U.oneCell' = true) (h63 : n ≤ 1000000) (hbase : base ≤ w.heap.size)
    (h : ∀ g c2 w', w'.ownsRow base 54 1 (.slice (some ⟨g, 0, none⟩) (n + 1) c2) (n + 1) (vs ++ [U]) → w.grownBy w' (Value.slice A n c).ownBlock → ((Value.slice A n c).ownBlock = some g ∨ w.heap.size ≤ g) → wpList Tryd.prog ops Q rest (a.put o.dst (.slice (some ⟨g, 0, none⟩) (n + 1) c2)) w') : wpList Tryd.prog ops Q (o :: rest) a w := by
  obtain ⟨i0, hi0, hz0, hz1, hz2⟩ := info_parts lists_info
  refine wpList_append_lies (w := w) hgd s x 23 ho base 54 i0 (.slice none 0 0) 1 24 Tryd.underlying23 hi0 hz0 hz1 hz2 rfl (by decide) (.slice A n c) n vs hs hown ⟨q, 0, none⟩ 1 1 [U] hx rfl (fun j u hj => by
    rw [add_plain, Nat.zero_add, hc.cell j, ← hj]
    rw [show (#[U] : Array Value) = [U].toArray from rfl, List.getElem?_toArray]) (fun u hu => by rw [List.mem_singleton.1 hu]; exact h1) (by omega) (by unfold maxLen; omega) (by omega) hbase w.heap.size rfl ?_
  intro g cap w' hown' hgrow hg _
  exact h g cap w' hown' hgrow (hg.imp id fun e => by omega)
/-- In a loop that appends lists. -/
structure LpR (w X : World) (A : Option Addr) (n c : Nat) (vs : List Value) (s : St) : Prop where
  b : Below w.heap.size w X
  o : OwS X w.heap.size A n c vs s
theorem LpR.step {w X Y : World} {A : Option Addr} {n c : Nat} {vs : List Value} {s : St} (h : LpR w X A n c vs s) (b : Below X.heap.size X Y) : LpR w Y A n c vs s := ⟨blw h.b b, h.o.keep b⟩
theorem LpR.push {w X Y Z : World} {A P : Option Addr} {n c m d g c2 : Nat} {vs : List Value} {s : St} {l : List Int} (h : LpR w X A n c vs s) (b : Below X.heap.size X Y) (r : Y.ownsRow w.heap.size 21 1 (.slice P m d) m (wv l)) (hm : l.length = m) (hl : ∀ x ∈ l, inW x)
    (hf : (Value.slice P m d).ownBlock = none ∨ (Value.slice P m d).ownBlock = some X.heap.size)
    (o : Z.ownsRow w.heap.size 54 1 (.slice (some ⟨g, 0, none⟩) (n + 1) c2) (n + 1) (vs ++ [.slice P m d])) (gr : Y.grownBy Z (Value.slice A n c).ownBlock) (hg : (Value.slice A n c).ownBlock = some g ∨ Y.heap.size ≤ g) : LpR w Z (some ⟨g, 0, none⟩) (n + 1) c2 (vs ++ [.slice P m d]) (s ++ [l]) := by
  subst hm
  have k := h.step b
  refine ⟨?_, k.o.push r hl (hf.imp id fun e => ⟨fun q => ?_, fun j hj q => ?_⟩) o gr hg⟩
  · exact bgrow k.b k.o.own (Nat.le_refl _) gr
  · rw [e] at q
    have := (h.o.ge _ q.symm).2
    omega
  · rw [e] at q
    have := (h.o.lt hj _ q.symm).2
    omega
set_option maxRecDepth 100000 in
set_option maxHeartbeats 8000000 in
theorem RPut_any (s : St) (A : Option Addr) (n c : Nat) (v i x : Int) (hx : inW x) (w : World) (R : StR w A c s) (hn : s.length = n) (hB : stB s) (h6 : n ≤ 1000000) : Calls Tryd.prog 23 #[.slice A n c, .int .i64 v, .int .i64 i, .int .i32 x] w (Mks w (putS s v i x)) := by
  have hn1 : (n : Int) ≤ 1000000 := by omega
  have hn0 : (0 : Int) ≤ (n : Int) := by omega
  have HR := Lib.hid R
  have HN := Lib.hid hn
  have HW := Lib.hid R.w
  have HSB := Lib.hid hB
  have HE := Lib.hid fun X P d vs (h : LpR w X P n d vs (putS s v i x)) => (show Mks w (putS s v i x) (.returned (.slice P n d)) X by
    have e : (putS s v i x).length = n := (put_len s v i x).trans hn
    refine ⟨P, d, vs, by rw [e], ?_, h.b⟩
    rw [e]; exact h.o)
  have CA := Lib.hid fun X => RAt_any s A n c v i X
  clear hn hB
  have R0 := Lib.hid (show LpR w w none 0 0 [] (s.take 0) from ⟨b0 w, by rw [List.take_zero]; exact OwS.nil w _⟩)
  clear R
  go_enter Tryd.func23, Tryd.ntmps23
  go_wp2
  go_loopw [9, 10] (fun z ι wr => ∃ j : Nat, j ≤ n ∧ ι = .int .i64 j ∧ ∃ P d vs, z = .slice P j d ∧ Hid (LpR w wr P j d vs (s.take j))) (fun _ ι _ => n - (intOf ι).toNat)
  case atStart => exact ⟨0, Nat.zero_le _, rfl, none, 0, [], rfl, R0⟩
  case round =>
    obtain ⟨j, hj, rfl, P, d, vs, rfl, H⟩ := hrel
    have hj0 : (0 : Int) ≤ (j : Int) := by omega
    by_cases hlt : (j : Int) < (n : Int)
    · have hjn : j < s.length := by have := HN.out; omega
      obtain ⟨a, rfl, Q, m, d2, hm, x0, Wq⟩ := (HR.out.keep H.out.b).rd j hjn
      have hb := stB_at HSB.out hjn
      rw [hm] at hb
      have htk : s.take (j + 1) = s.take j ++ [s.getD j []] := by
        rw [List.take_succ_eq_append_getElem hjn, List.getD_eq_getElem?_getD, List.getElem?_eq_getElem hjn]; rfl
      have hlw := stW_get HW.out j
      have HF := Lib.hid fun (Y Z : World) (U : Option Addr) (c g c2 : Nat) (b : Below wr.heap.size wr Y) (r : Y.ownsRow w.heap.size 21 1 (.slice U m c) m (wv (s.getD j []))) hf o gr hg => (show LpR w Z (some ⟨g, 0, none⟩) (j + 1) c2 (vs ++ [.slice U m c]) (s.take (j + 1)) by
        rw [htk]
        exact H.out.push b r hm hlw hf o gr hg)
      have WQ := Lib.hid (And.intro Wq hm)
      clear Wq hm htk hlw
      generalize s.getD j [] = l at *
      go_wp2_with (first
        | (at_builtin; refine app_words rfl _ _ rfl w.heap.size m d2 Q l rfl rfl WQ.out.1 WQ.out.2 hb H.out.b.size ?_; intro U c5 w5 hown5 hgrow5 hf5; have H5 := Lib.hid (And.intro hown5 (And.intro hgrow5 hf5)); clear hown5 hgrow5 hf5)
        | (at_builtin; refine app_list rfl _ _ rfl w.heap.size j _ w5.heap.size P vs (.slice U m c5) rfl rfl ((H.out.step (blw (g_below0 H5.out.2.1) (bal (b0 w5) _))).o.own) (boxS_new w5 _ _) rfl (by omega) (by have := H.out.b.size; have := H5.out.2.1.size; rw [World.size_alloc]; omega) ?_; intro g c2 w7 hown7 hgrow7 hg7; have H7 := Lib.hid (HF.out _ w7 U c5 g c2 (blw (g_below0 H5.out.2.1) (bal (b0 w5) _)) (World.ownsRow.alloc H5.out.1 _) H5.out.2.2 hown7 hgrow7 hg7); clear hown7 hgrow7 hg7))
      go_roundw
      case rel => exact ⟨j + 1, by omega, by go_num, _, _, _, rfl, H7⟩
      case measure => simp [intOf]; omega
    · obtain rfl : j = n := by omega
      have HS : Hid (LpR w wr P j d vs s) := Lib.hid (by have := H.out; rw [show s.take j = s by rw [← HN.out, List.take_length]] at this; exact this)
      have CA2 := CA.out wr (HR.out.keep H.out.b) HN.out
      clear CA
      rw [at_has] at CA2
      unfold apR at CA2
      cases hh : hasS s v i with
      | false =>
        have e : putS s v i x = s := by unfold putS; rw [hh]; rfl
        rw [hh] at CA2
        have CA2 := Lib.hid CA2
        have HZ := Lib.hid (HE.out wr P d vs (by rw [e]; exact HS.out))
        clear HE e hh
        go_wp2_with (go_at_call 51; (with_reducible refine (CA2.out).mono ?_); rintro e1 w4 ⟨rfl, rfl⟩)
        go_ret
        exact HZ.out
      | true =>
        rw [hh, if_pos rfl] at CA2
        have hc : 0 ≤ v ∧ v < (s.length : Int) ∧ 0 ≤ i ∧ i < ((s.getD v.toNat []).length : Int) := by unfold hasS at hh; exact of_decide_eq_true hh
        have e : putS s v i x = s.set v.toNat ((s.getD v.toNat []).set i.toNat x) := by unfold putS; rw [hh]; rfl
        obtain ⟨h1, h2, h3, h4⟩ := hc
        rw [HN.out] at h2
        obtain ⟨k, rfl⟩ : ∃ k : Nat, v = (k : Int) := ⟨v.toNat, by omega⟩
        obtain ⟨t, rfl⟩ : ∃ t : Nat, i = (t : Int) := ⟨i.toNat, by omega⟩
        rw [Int.toNat_natCast] at h4
        rw [Int.toNat_natCast, Int.toNat_natCast] at e CA2
        have CA2 := Lib.hid CA2
        have o := HS.out.o
        obtain ⟨g0, rfl, _, _⟩ := o.out (by omega)
        obtain ⟨gk, d1, e1, hgk, hgk2, c0, c1, hset⟩ := o.wr (k := k) (j := t) (by omega) (by omega)
        obtain ⟨o2, gr2⟩ := hset x hx
        have hL : LpR w (wr.setCell ⟨gk, t, none⟩ (.int .i32 x)) (some ⟨g0, 0, none⟩) j d vs (putS s (k : Int) (t : Int) x) := ⟨HS.out.b.trans (Fr.below (w := wr) (P := fun k => k = gk) ⟨gr2.os, gr2.tape, gr2.output, gr2.size, fun k hk hp => gr2.block k hk (fun e => hp (by injection e))⟩ HS.out.b.size (fun k hk => by omega)), by rw [e]; exact o2⟩
        have HZ := Lib.hid (HE.out _ _ _ _ hL)
        have oc := (o.own.cellAt k (by omega)).trans (List.getElem?_eq_getElem (by rw [o.vlen]; omega))
        rw [show vs[k]'(by rw [o.vlen]; omega) = vs.getD k nilV by rw [List.getD_eq_getElem?_getD, List.getElem?_eq_getElem (by rw [o.vlen]; omega)]; rfl, e1] at oc
        have h5 : ((s.getD k []).length : Int) ≤ 9223372036854775807 := by have := stB_at HSB.out (j := k) (by have := HN.out; omega); omega
        have hkj : (k : Int) < (j : Int) := h2
        generalize (s.getD k []).getD t 0 = y at *
        generalize (s.getD k []).length = m at *
        clear HE e hh o hset o2 gr2 hL e1 HS
        go_wp2_with (go_at_call 51; (with_reducible refine (CA2.out).mono ?_); rintro e1 w4 ⟨rfl, rfl⟩)
        go_ret
        exact HZ.out
theorem sto_take {vs : List Vr} {j : Nat} (h : j < vs.length) : (stoV vs).take (j + 1) = (stoV vs).take j ++ [List.replicate (lngV (vs.getD j v0)) 0] := by
  unfold stoV
  rw [← List.map_take, ← List.map_take, List.take_succ_eq_append_getElem h, List.map_append, List.getD_eq_getElem?_getD, List.getElem?_eq_getElem h]
  rfl
theorem KB.grow {w X Z : World} {A : Option Addr} {n c m : Nat} {V : Value} {us : List Value} (h : KB w X A n c) (o : X.ownsRow w.heap.size 54 1 V m us) (g : X.grownBy Z V.ownBlock) : KB w Z A n c := by
  refine ⟨bgrow h.1 o (Nat.le_refl _) g, h.2.kept g fun e => ?_⟩
  rcases o.2 with ⟨rfl, _⟩ | ⟨k, cap, cur, rfl, _, hk, _⟩
  · cases e
  · have e2 : w.heap.size = k := by injection e
    have hb : BoxS X k 54 cur := hk
    exact box_ne h.2 hb (by decide) e2
set_option maxRecDepth 100000 in
set_option maxHeartbeats 8000000 in
theorem RStore_any (vs : List Vr) (A : Option Addr) (n c : Nat) (w : World) (R : VaR w A c vs) (hn : vs.length = n) : Calls Tryd.prog 14 #[kzV A n c] w (Mks w (if sndL vs = true then stoV vs else [])) := by
  obtain ⟨i0, hi0, hz0, hz1, hz2⟩ := info_parts words_info
  have HV := Lib.hid (KB.new w A n c)
  have CS := RSound_any vs A n c _ (R.keep HV.out.1) hn
  have p0 := HV.out.v
  cases hs : sndL vs with
  | false =>
    rw [hs] at CS
    have CS := Lib.hid CS
    have HE := Lib.hid fun X (b : Below w.heap.size w X) => (show Mks w (if false = true then stoV vs else []) (.returned (.slice none 0 0)) X from ⟨none, 0, [], rfl, OwS.nil X _, b⟩)
    clear R hn hs
    unfold kzC at *
    go_enter Tryd.func14, Tryd.ntmps14
    go_wp2_with (go_at_call 39; (with_reducible refine (CS.out).mono ?_); rintro en w2 ⟨rfl, rfl⟩)
    go_ret
    exact HE.out _ HV.out.1
  | true =>
    rw [hs] at CS
    have CS := Lib.hid CS
    rw [if_pos rfl]
    have h256 := snd_n hs
    have hsl : (stoV vs).length = n := by unfold stoV; rw [List.length_map, hn]
    have hn1 : (n : Int) ≤ 256 := by omega
    have hn0 : (0 : Int) ≤ (n : Int) := by omega
    have HR := Lib.hid R
    have HN := Lib.hid (And.intro hn hsl)
    have HE := Lib.hid fun X P d us (h : LpR w X P n d us (stoV vs)) => (show Mks w (stoV vs) (.returned (.slice P n d)) X by
      refine ⟨P, d, us, by rw [HN.out.2], ?_, h.b⟩
      rw [HN.out.2]; exact h.o)
    have R0 := Lib.hid (show LpR w (w.alloc (.cells (kzC A n c) 37)) none 0 0 [] ((stoV vs).take 0) from ⟨HV.out.1, by rw [List.take_zero]; exact OwS.nil _ _⟩)
    clear R hn hsl
    unfold kzC at *
    go_enter Tryd.func14, Tryd.ntmps14
    go_wp2_with (go_at_call 39; (with_reducible refine (CS.out).mono ?_); rintro en w2 ⟨rfl, rfl⟩)
    have HK := Lib.hid (show KB w (w.alloc (.cells (kzC A n c) 37)) A n c from HV.out)
    go_loopw [3, 4] (fun z ι wr => ∃ j : Nat, j ≤ n ∧ ι = .int .i64 j ∧ Hid (KB w wr A n c) ∧ ∃ P d us, z = .slice P j d ∧ Hid (LpR w wr P j d us ((stoV vs).take j))) (fun _ ι _ => n - (intOf ι).toNat)
    case atStart => exact ⟨0, Nat.zero_le _, rfl, HK, none, 0, [], rfl, R0⟩
    case round =>
      obtain ⟨j, hj, rfl, HK, P, d, us, rfl, H⟩ := hrel
      have hj0 : (0 : Int) ≤ (j : Int) := by omega
      clear p0
      have p0 := HK.out.v
      by_cases hlt : (j : Int) < (n : Int)
      · have hjn : j < vs.length := by have := HN.out; omega
        have hjn2 : j < (stoV vs).length := by have := HN.out; omega
        obtain ⟨a, rfl, x0, x1⟩ := (HR.out.keep H.out.b).rd j hjn
        have hsn := snd_in hs hjn
        have C := Lib.hid fun W => RLong_any (vs.getD j v0) hsn W
        have h64 := snd_l hsn
        have hl0 : (0 : Int) ≤ ((lngV (vs.getD j v0) : Nat) : Int) := by omega
        have hl1 : ((lngV (vs.getD j v0) : Nat) : Int) ≤ 64 := by omega
        have htk := sto_take hjn
        have HM := Lib.hid (made_words (lngV (vs.getD j v0)))
        have HF := Lib.hid fun (X Y Z : World) (g c2 : Nat) (h : Hid (LpR w X P j d us ((stoV vs).take j))) (b : Below X.heap.size X Y) (r : Y.ownsRow w.heap.size 21 1 (.slice (some ⟨X.heap.size, 0, none⟩) (lngV (vs.getD j v0)) (lngV (vs.getD j v0))) (lngV (vs.getD j v0)) (wv (List.replicate (lngV (vs.getD j v0)) 0))) o gr hg => (show LpR w Z (some ⟨g, 0, none⟩) (j + 1) c2 (us ++ [.slice (some ⟨X.heap.size, 0, none⟩) (lngV (vs.getD j v0)) (lngV (vs.getD j v0))]) ((stoV vs).take (j + 1)) by
          rw [htk]
          exact h.out.push b r List.length_replicate (fun x hx => by rw [(List.mem_replicate.1 hx).2]; unfold inW; omega) (.inr rfl) o gr hg)
        clear hsn htk
        generalize lngV (vs.getD j v0) = L at *
        generalize vs.getD j v0 = y at *
        go_wp2_with (first
          | (go_at_call 40; (with_reducible refine (C.out _).mono ?_); rintro e1 w4 ⟨rfl, b⟩; have H4 := Lib.hid (H.out.step b); have K4 := Lib.hid (HK.out.step b); clear b)
          | (at_make; refine wpList_make_full _ rfl _ _ 54 rfl w.heap.size 21 i0 (.int .i32 0) 1 Tryd.underlying54 hi0 hz0 hz1 .i64 .i64 _ _ L rfl rfl (by omega) (by omega) (by rw [hz2]; omega) (by unfold maxLen; omega) H4.out.b.size ?_; intro w5 hown5 hgrow5; rw [HM.out] at hown5; have H5 := Lib.hid (And.intro hown5 (blw (g_below0 hgrow5) (bal (b0 w5) (.cells #[.slice (some ⟨w4.heap.size, 0, none⟩) L L] 54)))); have O6 := Lib.hid (H4.out.step H5.out.2).o; have K6 := Lib.hid (K4.out.step H5.out.2); clear hown5 hgrow5)
          | (at_builtin; refine app_list rfl _ _ rfl w.heap.size j _ w5.heap.size P us (.slice (some ⟨w4.heap.size, 0, none⟩) L L) rfl rfl O6.out.own (boxS_new w5 _ _) rfl (by omega) K6.out.1.size ?_; intro g c2 w7 hown7 hgrow7 hg7; have K7 := Lib.hid (KB.grow K6.out O6.out.own hgrow7); have H7 := Lib.hid (HF.out w4 _ w7 g c2 H4 H5.out.2 (World.ownsRow.alloc H5.out.1 _) hown7 hgrow7 hg7); clear hown7 hgrow7 hg7))
        go_roundw
        case rel => exact ⟨j + 1, by omega, by go_num, K7, _, _, _, rfl, H7⟩
        case measure => simp [intOf]; omega
      · obtain rfl : j = n := by omega
        have HS : Hid (LpR w wr P j d us (stoV vs)) := Lib.hid (by have := H.out; rw [show (stoV vs).take j = stoV vs by rw [← HN.out.2, List.take_length]] at this; exact this)
        have HZ := Lib.hid (HE.out _ _ _ _ HS.out)
        go_wp2
        go_ret
        exact HZ.out
end Go.Proofs.YtblckajejohlbaaDoor
/- The reference: Same. -/
set_option linter.unusedVariables false
set_option linter.unusedSimpArgs false
namespace Go.Proofs.YtblckajejohlbaaDoor
open Go Go.RowKit L8 L22 L17
open L14 (inW)

set_option maxRecDepth 100000 in
set_option maxHeartbeats 8000000 in
theorem RSame_any (a b : St) (A B : Option Addr) (n m c d : Nat) (w : World) (Ra : StR w A c a) (Rb : StR w B d b) (hn : a.length = n) (hm : b.length = m) : Calls Tryd.prog 15 #[.slice A n c, .slice B m d] w fun en w' => en = .returned (.bool (decide (a = b))) ∧ Below w.heap.size w w' := by
  have hsa := Ra.sz hn
  have hsb := Rb.sz hm
  have HB0 := Lib.hid (b0 w)
  by_cases hnm : n ≠ m
  · have q0 : ((n : Int) != (m : Int)) = true := by simp; omega
    rw [decide_eq_false (show ¬ a = b from fun e => hnm (by rw [← hn, ← hm, e]))]
    clear Ra Rb hn hm hnm
    go_enter Tryd.func15, Tryd.ntmps15
    go_wp2
    go_ret
    exact ⟨rfl, HB0.out⟩
  obtain rfl : n = m := by omega
  have HA := Lib.hid Ra
  have HR := Lib.hid Rb
  have HN := Lib.hid (And.intro hn hm)
  have q0 : ((n : Int) != (n : Int)) = false := by simp
  obtain ⟨F, hF⟩ : ∃ F, decide (a = b) = F := ⟨_, rfl⟩
  rw [hF]
  have HF := Lib.hid hF
  clear Ra Rb hn hm hnm hF
  go_enter Tryd.func15, Tryd.ntmps15
  go_wp2
  go_loopw [5] (fun ι wr => ∃ j : Nat, j ≤ n ∧ ι = .int .i64 j ∧ Hid (a.take j = b.take j) ∧ Hid (Below w.heap.size w wr)) (fun ι _ => n - (intOf ι).toNat)
  case atStart => exact ⟨0, Nat.zero_le _, rfl, Lib.hid (by simp), HB0⟩
  case round =>
    obtain ⟨j, hj, rfl, he, H⟩ := hrel
    have hj0 : (0 : Int) ≤ (j : Int) := by omega
    by_cases hlt : (j : Int) < (n : Int)
    · obtain ⟨p, rfl, P, np, dp, hnp, x0, Wp⟩ := (HA.out.keep H.out).rd j (by have := HN.out; omega)
      obtain ⟨q, rfl, Q, nq', dq, hnq, y0, Wq⟩ := (HR.out.keep H.out).rd j (by have := HN.out; omega)
      have hsp : (np : Int) ≤ 9223372036854775807 := by have := Wp.le; have := Wp.mx; unfold maxLen at this; omega
      have hsq : (nq' : Int) ≤ 9223372036854775807 := by have := Wq.le; have := Wq.mx; unfold maxLen at this; omega
      by_cases hl : np ≠ nq'
      · have q1 : ((np : Int) != (nq' : Int)) = true := by simp; omega
        have hf := Lib.hid (show F = false by rw [← HF.out]; exact decide_eq_false fun e => hl (by rw [← hnp, ← hnq, e]))
        clear Wp Wq hnp hnq hl
        go_wp2
        go_quiet (fail)
        have H2 := Lib.hid (show Below w.heap.size w (wr.drewN nq) from bdrew H.out nq)
        generalize wr.drewN nq = W at *
        go_wp2
        go_ret
        rw [hf.out]
        exact ⟨rfl, H2.out⟩
      obtain rfl : np = nq' := by omega
      have q1 : ((np : Int) != (np : Int)) = false := by simp
      have WP := Lib.hid Wp
      have WQ := Lib.hid Wq
      have HL := Lib.hid (And.intro hnp hnq)
      have ht := Lib.hid fun (h : a.getD j [] = b.getD j []) => take_eq [] (by have := HN.out; omega) (by have := HN.out; omega) he.out h
      have hne := Lib.hid fun (h : ¬ a.getD j [] = b.getD j []) => (show F = false by rw [← HF.out]; exact decide_eq_false fun e => h (by rw [e]))
      have X0 := Lib.hid fun W (b : Below w.heap.size w W) => (b.cell (p := p.add j) (show (p.add j).block < w.heap.size by
        have k := (HA.out.rd j (by have := HN.out; omega))
        obtain ⟨p', e, _, _, _, _, hc, _⟩ := k
        obtain rfl := Option.some.inj e
        exact g_lt hc))
      have Y0 := Lib.hid fun W (b : Below w.heap.size w W) => (b.cell (p := q.add j) (show (q.add j).block < w.heap.size by
        have k := (HR.out.rd j (by have := HN.out; omega))
        obtain ⟨p', e, _, _, _, _, hc, _⟩ := k
        obtain rfl := Option.some.inj e
        exact g_lt hc))
      have x0w := Lib.hid ((X0.out wr H.out).symm.trans x0)
      have y0w := Lib.hid ((Y0.out wr H.out).symm.trans y0)
      have WPk := Lib.hid fun W (b : Below wr.heap.size wr W) => WP.out.keep b
      have WQk := Lib.hid fun W (b : Below wr.heap.size wr W) => WQ.out.keep b
      clear Wp Wq hnp hnq hl
      go_wp2
      go_quiet (fail)
      have H2 := Lib.hid (show Below w.heap.size w (wr.drewN nq) from bdrew H.out nq)
      have B2 := Lib.hid (show Below wr.heap.size wr (wr.drewN nq) from bdrew (b0 wr) nq)
      generalize wr.drewN nq = W0 at *
      go_wp2
      go_loopw [6] (fun ι w2 => ∃ k : Nat, k ≤ np ∧ ι = .int .i64 k ∧ Hid ((a.getD j []).take k = (b.getD j []).take k) ∧ Hid (Below w.heap.size w w2) ∧ Hid (Below wr.heap.size wr w2)) (fun ι _ => np - (intOf ι).toNat)
      case atStart => exact ⟨0, Nat.zero_le _, rfl, Lib.hid (by simp), H2, B2⟩
      case round =>
        obtain ⟨k, hk, rfl, hke, K, BK⟩ := hrel
        have hk0 : (0 : Int) ≤ (k : Int) := by omega
        clear x0 y0
        have x0 := (X0.out _ K.out).trans x0w.out
        have y0 := (Y0.out _ K.out).trans y0w.out
        by_cases hlk : (k : Int) < (np : Int)
        · obtain ⟨p2, rfl, x1⟩ := (WPk.out _ BK.out).rd k (by have := HL.out; omega)
          obtain ⟨q2, rfl, y1⟩ := (WQk.out _ BK.out).rd k (by have := HL.out; omega)
          by_cases hx : (a.getD j []).getD k 0 = (b.getD j []).getD k 0
          · have hs := Lib.hid (take_eq 0 (by have := HL.out; omega) (by have := HL.out; omega) hke.out hx)
            rw [← hx] at y1
            have qx : ((a.getD j []).getD k 0 != (a.getD j []).getD k 0) = false := by simp
            clear hx
            generalize (a.getD j []).getD k 0 = x at *
            go_wp2
            go_quiet (fail)
            have K2 := Lib.hid (show Below w.heap.size w (World.drewN _ nq) from bdrew K.out nq)
            have B3 := Lib.hid (show Below _ _ (World.drewN _ nq) from bdrew BK.out nq)
            generalize World.drewN _ nq = W at *
            go_wp2
            go_roundw
            case rel => exact ⟨k + 1, by omega, by go_num, hs, K2, B3⟩
            case measure => simp [intOf]; omega
          · have hs := Lib.hid (hne.out fun e => hx (by rw [e]))
            have qx : ((a.getD j []).getD k 0 != (b.getD j []).getD k 0) = true := by simpa using hx
            clear hx
            generalize (a.getD j []).getD k 0 = x at *
            generalize (b.getD j []).getD k 0 = y at *
            go_wp2
            go_quiet (fail)
            have K2 := Lib.hid (show Below w.heap.size w (World.drewN _ nq) from bdrew K.out nq)
            generalize World.drewN _ nq = W at *
            go_wp2
            go_ret
            rw [hs.out]
            exact ⟨rfl, K2.out⟩
        · obtain rfl : k = np := by omega
          have hs := Lib.hid (ht.out (take_all HL.out.1 HL.out.2 hke.out))
          go_wp2
          go_roundw
          case rel => exact ⟨j + 1, by omega, by go_num, hs, K⟩
          case measure => simp [intOf]; omega
    · obtain rfl : j = n := by omega
      have hs := Lib.hid (show F = true by rw [← HF.out]; exact decide_eq_true (take_all HN.out.1 HN.out.2 he.out))
      go_wp2
      go_ret
      rw [hs.out]
      exact ⟨rfl, H.out⟩
end Go.Proofs.YtblckajejohlbaaDoor
/- The reference: May. -/
set_option linter.unusedVariables false
set_option linter.unusedSimpArgs false
namespace Go.Proofs.YtblckajejohlbaaDoor
open Go Go.RowKit L8 L22 L17
open L14 (inW apO conO)

/-- On the way through a store of a kernel. -/
structure MyS (w X : World) (A : Option Addr) (n c : Nat) (vs : List Vr) (B : Option Addr) (d : Nat) (s : St) : Prop where
  kb : KB w X A n c
  va : VaR X A c vs
  st : StR X B d s
theorem MyS.step {w X Y : World} {A : Option Addr} {n c : Nat} {vs : List Vr} {B : Option Addr} {d : Nat} {s : St} (h : MyS w X A n c vs B d s) (b : Below X.heap.size X Y) : MyS w Y A n c vs B d s := ⟨h.kb.step b, h.va.keep b, h.st.keep b⟩
theorem MyS.dr {w X : World} {A : Option Addr} {n c : Nat} {vs : List Vr} {B : Option Addr} {d : Nat} {s : St} (h : MyS w X A n c vs B d s) : MyS w X.drew A n c vs B d s := h.step (bdrew (b0 X) 1)
/-- The cells at one index. -/
theorem MyS.at {w X : World} {n c d j : Nat} {vs : List Vr} {a b : Addr} {s : St} (h : MyS w X (some a) n c vs (some b) d s) (h1 : j < vs.length) {P : Option Addr} {np dp : Nat} (hc : ∃ Y, Below Y.heap.size Y X ∧ Y.cell? (b.add j) = some (.slice P np dp)) :
    X.cell? ⟨w.heap.size, 0, none⟩ = some (.slice (some a) n c) ∧ X.cell? (a.add (j * 2)) = some (.int .u8 ((vs.getD j v0).1 : Int)) ∧ X.cell? ⟨(a.add (j * 2)).block, (a.add (j * 2)).off + 1, none⟩ = some (.int .i64 (vs.getD j v0).2) ∧ X.cell? (b.add j) = some (.slice P np dp) := by
  obtain ⟨a', e, x0, x1⟩ := h.va.rd j h1
  obtain rfl := Option.some.inj e
  obtain ⟨Y, bY, hY⟩ := hc
  exact ⟨h.kb.v, x0, x1, (bY.cell (g_lt hY)).trans hY⟩
theorem fit_take {x : Vr} {l : List Int} {k : Nat} (hk : k < l.length) (h : (l.take k).all (fitV x.1) = true) (hf : fitV x.1 (l.getD k 0) = true) : (l.take (k + 1)).all (fitV x.1) = true := by
  rw [List.take_succ_eq_append_getElem hk, List.all_append, h]
  rw [List.getD_eq_getElem?_getD, List.getElem?_eq_getElem hk] at hf
  simpa using hf
theorem fit_nt {x : Vr} {l : List Int} {k : Nat} (hk : k < l.length) (hf : fitV x.1 (l.getD k 0) = false) : rowV x l = false := by
  unfold rowV
  rw [Bool.and_eq_false_iff]
  right
  rw [List.all_eq_false]
  rw [List.getD_eq_getElem?_getD, List.getElem?_eq_getElem hk] at hf
  exact ⟨_, List.getElem_mem hk, by rw [show l[k] = (some l[k]).getD 0 from rfl, hf]; simp⟩
theorem row_all {x : Vr} {l : List Int} {n : Nat} (hn : l.length = n) (hl : n = lngV x) (h : (l.take n).all (fitV x.1) = true) : rowV x l = true := by
  unfold rowV
  rw [← hn, List.take_length] at h
  rw [h, hn, decide_eq_true hl]; rfl
set_option maxRecDepth 100000 in
set_option maxHeartbeats 16000000 in
theorem RMay_any (vs : List Vr) (s : St) (A B : Option Addr) (n m c d : Nat) (w : World) (R : VaR w A c vs) (T : StR w B d s) (hn : vs.length = n) (hm : s.length = m) : Calls Tryd.prog 17 #[kzV A n c, .slice B m d] w fun en w' => en = .returned (.bool (mayS vs s)) ∧ Below w.heap.size w w' := by
  have hsa := R.sz hn
  have hsb := T.sz hm
  have HV := Lib.hid (KB.new w A n c)
  have HM0 := Lib.hid (show MyS w (w.alloc (.cells (kzC A n c) 37)) A n c vs B d s from ⟨HV.out, R.keep HV.out.1, T.keep HV.out.1⟩)
  have CS := RSound_any vs A n c _ HM0.out.va hn
  have p0 := HV.out.v
  cases hs : sndL vs with
  | false =>
    rw [mayS_no hs]
    rw [hs] at CS
    have CS := Lib.hid CS
    clear R T hn hm hs HM0
    unfold kzC at *
    go_enter Tryd.func17, Tryd.ntmps17
    go_wp2_with (go_at_call 39; (with_reducible refine (CS.out).mono ?_); rintro en w2 ⟨rfl, rfl⟩)
    go_ret
    exact ⟨rfl, HV.out.1⟩
  | true =>
    rw [hs] at CS
    have CS := Lib.hid CS
    by_cases hnm : m ≠ n
    · have q0 : ((m : Int) != (n : Int)) = true := by simp; omega
      have e : mayS vs s = false := by
        unfold mayS
        rw [decide_eq_false (show ¬ s.length = vs.length by omega), Bool.false_and, Bool.and_false]
      rw [e]
      clear R T hn hm hnm e hs HM0
      unfold kzC at *
      go_enter Tryd.func17, Tryd.ntmps17
      go_wp2_with (go_at_call 39; (with_reducible refine (CS.out).mono ?_); rintro en w2 ⟨rfl, rfl⟩)
      go_ret
      exact ⟨rfl, HV.out.1⟩
    obtain rfl : m = n := by omega
    have HN := Lib.hid (And.intro hn hm)
    have q0 : ((m : Int) != (m : Int)) = false := by simp
    have e : mayS vs s = (List.zip vs s).all fun p => rowV p.1 p.2 := by
      unfold mayS
      rw [hs, decide_eq_true (show s.length = vs.length by omega), Bool.true_and, Bool.true_and]
    rw [e]
    obtain ⟨F, hF⟩ : ∃ F, ((List.zip vs s).all fun p => rowV p.1 p.2) = F := ⟨_, rfl⟩
    rw [hF]
    have HF := Lib.hid hF
    have HSL := Lib.hid hs
    clear R T hn hm hnm hF e hs HV
    unfold kzC at HM0 p0 CS
    go_enter Tryd.func17, Tryd.ntmps17
    go_wp2_with (go_at_call 39; (with_reducible refine (CS.out).mono ?_); rintro en w2 ⟨rfl, rfl⟩)
    clear p0 CS
    go_loopw [5] (fun ι wr => ∃ j : Nat, j ≤ m ∧ ι = .int .i64 j ∧ Hid (((List.zip vs s).take j).all (fun p => rowV p.1 p.2) = true) ∧ Hid (MyS w wr A m c vs B d s)) (fun ι _ => m - (intOf ι).toNat)
    case atStart => exact ⟨0, Nat.zero_le _, rfl, Lib.hid (by simp), HM0⟩
    case round =>
      obtain ⟨j, hj, rfl, he, H⟩ := hrel
      have hj0 : (0 : Int) ≤ (j : Int) := by omega
      clear HM0
      by_cases hlt : (j : Int) < (m : Int)
      · have j1 : j < vs.length := by have := HN.out; omega
        have j2 : j < s.length := by have := HN.out; omega
        obtain ⟨p, rfl, _, _⟩ := H.out.va.rd j j1
        obtain ⟨q, rfl, Q, nq', dq, hnq, y0, Wq⟩ := H.out.st.rd j j2
        have hsq : (nq' : Int) ≤ 9223372036854775807 := by have := Wq.le; have := Wq.mx; unfold maxLen at this; omega
        have WQ := Lib.hid fun W (b : Below wr.heap.size wr W) => Wq.keep b
        have HQ := Lib.hid hnq
        have hsn := snd_in HSL.out j1
        have C := Lib.hid fun W => RLong_any (vs.getD j v0) hsn W
        have CV := Lib.hid fun x W => RConvert_any (vs.getD j v0).1 x W
        have HC := Lib.hid fun W (h : Hid (MyS w W (some p) m c vs (some q) d s)) (b : Below wr.heap.size wr W) => h.out.at j1 (P := Q) (np := nq') (dp := dq) ⟨wr, b, y0⟩
        have B0 := Lib.hid (b0 wr)
        have hyes := Lib.hid fun (h : rowV (vs.getD j v0) (s.getD j []) = true) => rows_step j1 j2 he.out h
        have hno := Lib.hid fun (h : rowV (vs.getD j v0) (s.getD j []) = false) => (show F = false by rw [← HF.out]; exact rows_no j1 j2 h)
        have hrl := Lib.hid fun (h : ¬ nq' = lngV (vs.getD j v0)) => hno.out (by unfold rowV; rw [decide_eq_false (by rw [hnq]; exact h), Bool.false_and])
        have hrn := Lib.hid fun k (hk : k < nq') (h : fitV (vs.getD j v0).1 ((s.getD j []).getD k 0) = false) => hno.out (fit_nt (by rw [hnq]; exact hk) h)
        have hrs := Lib.hid fun k (hk : k < nq') h1 h2 => fit_take (x := vs.getD j v0) (l := s.getD j []) (k := k) (by rw [hnq]; exact hk) h1 h2
        have hry := Lib.hid fun (hl : nq' = lngV (vs.getD j v0)) h => hyes.out (row_all (x := vs.getD j v0) hnq hl h)
        have HD := Lib.hid H.out.dr
        have BD := Lib.hid (show Below wr.heap.size wr wr.drew from bdrew (b0 wr) 1)
        obtain ⟨p0, x0, x1, y0⟩ := HC.out _ HD BD.out
        clear Wq hnq hsn hyes hno
        obtain ⟨z0, z1, z2, z3⟩ := HC.out _ H B0.out
        clear j1 j2
        generalize vs.getD j v0 = y at *
        generalize s.getD j [] = l at *
        by_cases hl : nq' = lngV y
        · have q1 : ((nq' : Int) != ((lngV y : Nat) : Int)) = false := by simp [hl]
          have hry2 := Lib.hid (hry.out hl)
          clear hl hrl hry
          generalize ((lngV y : Nat) : Int) = L at *
          go_wp2
          go_region_held3 (fun w' => w'.cell? ⟨w.heap.size, 0, none⟩ = some (.slice (some p) m c) ∧ w'.cell? (p.add (j * 2)) = some (.int .u8 (y.1 : Int)) ∧ w'.cell? ⟨(p.add (j * 2)).block, (p.add (j * 2)).off + 1, none⟩ = some (.int .i64 y.2) ∧ w'.cell? (q.add j) = some (.slice Q nq' dq))
              (first | (exact HC.out _ HD BD.out) | (exact HC.out _ H2 B2.out) | (exact HC.out _ H B0.out) | go_keep)
              (first | (go_at_call 40; (with_reducible refine (C.out _).mono ?_); rintro e1 w2 ⟨rfl, b⟩; have H2 := Lib.hid (HD.out.step b); have B2 := Lib.hid (blw BD.out b); clear b))
          go_wp2
          go_loopw [6] (fun ι w3 => ∃ k : Nat, k ≤ nq' ∧ ι = .int .i64 k ∧ Hid ((l.take k).all (fitV y.1) = true) ∧ Hid (MyS w w3 (some p) m c vs (some q) d s) ∧ Hid (Below wr.heap.size wr w3)) (fun ι _ => nq' - (intOf ι).toNat)
          case atStart => exact ⟨0, Nat.zero_le _, rfl, Lib.hid (by simp), H2, B2⟩
          case round =>
            obtain ⟨k, hk, rfl, hka, K, BK⟩ := hrel
            have hk0 : (0 : Int) ≤ (k : Int) := by omega
            clear p0 x0 x1 y0
            obtain ⟨p0, x0, x1, y0⟩ := HC.out _ K BK.out
            by_cases hlk : (k : Int) < (nq' : Int)
            · obtain ⟨q2, rfl, y1⟩ := (WQ.out _ BK.out).rd k (by have := HQ.out; omega)
              have hkn : k < nq' := by omega
              cases hz : fitV y.1 (l.getD k 0) with
              | false =>
                have hf := Lib.hid (hrn.out k hkn hz)
                have CC := CV.out (l.getD k 0)
                unfold fitV at hz
                unfold apR at CC
                rw [hz] at CC
                have CC := Lib.hid CC
                clear hz
                generalize (conO y.1 (l.getD k 0)).getD 0 = u at *
                generalize l.getD k 0 = x at *
                go_wp2
                go_quiet ((go_at_call 43; exact (CC.out _).mono fun _ _ h => ⟨h.1, _, h.2.symm⟩))
                have K2 := Lib.hid (show Below w.heap.size w (World.drewN _ nq) from bdrew K.out.kb.1 nq)
                generalize World.drewN _ nq = W at *
                go_wp2
                go_ret
                rw [hf.out]
                exact ⟨rfl, K2.out⟩
              | true =>
                have hf := Lib.hid (hrs.out k hkn hka.out hz)
                have CC := CV.out (l.getD k 0)
                unfold fitV at hz
                unfold apR at CC
                rw [hz] at CC
                have CC := Lib.hid CC
                clear hz
                generalize (conO y.1 (l.getD k 0)).getD 0 = u at *
                generalize l.getD k 0 = x at *
                go_wp2
                go_quiet ((go_at_call 43; exact (CC.out _).mono fun _ _ h => ⟨h.1, _, h.2.symm⟩))
                have K2 := Lib.hid (show MyS w (World.drewN _ nq) (some p) m c vs (some q) d s from K.out.step (bdrew (b0 _) nq))
                have B3 := Lib.hid (show Below _ _ (World.drewN _ nq) from bdrew BK.out nq)
                generalize World.drewN _ nq = W at *
                go_wp2
                go_roundw
                case rel => exact ⟨k + 1, by omega, by go_num, hf, K2, B3⟩
                case measure => simp [intOf]; omega
            · obtain rfl : k = nq' := by omega
              have hs := Lib.hid (hry2.out hka.out)
              go_wp2
              go_roundw
              case rel => exact ⟨j + 1, by omega, by go_num, hs, K⟩
              case measure => simp [intOf]; omega
        · have q1 : ((nq' : Int) != ((lngV y : Nat) : Int)) = true := by simp; omega
          have hf := Lib.hid (hrl.out hl)
          clear hl hrl hry
          generalize ((lngV y : Nat) : Int) = L at *
          go_wp2
          go_region_held3 (fun w' => w'.cell? ⟨w.heap.size, 0, none⟩ = some (.slice (some p) m c) ∧ w'.cell? (p.add (j * 2)) = some (.int .u8 (y.1 : Int)) ∧ w'.cell? ⟨(p.add (j * 2)).block, (p.add (j * 2)).off + 1, none⟩ = some (.int .i64 y.2) ∧ w'.cell? (q.add j) = some (.slice Q nq' dq))
              (first | (exact HC.out _ HD BD.out) | (exact HC.out _ H2 B2.out) | (exact HC.out _ H B0.out) | go_keep)
              (first | (go_at_call 40; (with_reducible refine (C.out _).mono ?_); rintro e1 w2 ⟨rfl, b⟩; have H2 := Lib.hid (HD.out.step b); have B2 := Lib.hid (blw BD.out b); clear b))
          go_wp2
          go_ret
          rw [hf.out]
          exact ⟨rfl, H2.out.kb.1⟩
      · obtain rfl : j = m := by omega
        have hf := Lib.hid (show F = true by
          rw [← HF.out]
          have := he.out
          rwa [List.take_of_length_le (by rw [List.length_zip]; have := HN.out; omega)] at this)
        go_wp2
        go_ret
        rw [hf.out]
        exact ⟨rfl, H.out.kb.1⟩
end Go.Proofs.YtblckajejohlbaaDoor
/- The reference: Place. -/
set_option linter.unusedVariables false
set_option linter.unusedSimpArgs false
namespace Go.Proofs.YtblckajejohlbaaDoor
open Go Go.RowKit L8 L22 L17
open L14 (apO conO inW isT)

theorem plR_none (v : Int) : plR v none = .tuple #[.int .i64 0, .int .i64 0, .bool false] := rfl
theorem plR_some (v i : Int) : plR v (some i) = .tuple #[.int .i64 v, .int .i64 i, .bool true] := rfl
theorem ixS_0 {s : St} {l : List Kx} (h : l.length = 0) : ixS s l = some 0 := by unfold ixS; rw [if_pos h]
theorem ixS_1 {s : St} {l : List Kx} (h : l.length = 1) : ixS s l = valK s (l.getD 0 k0) := by unfold ixS; rw [if_neg (by omega), if_pos h]
theorem ixS_2 {s : St} {l : List Kx} (h : 1 < l.length) : ixS s l = none := by unfold ixS; rw [if_neg (by omega), if_neg (by omega)]
theorem plS_none {s : St} {v : Int} {l : List Kx} (h : ixS s l = none) : plS s v l = none := by unfold plS; rw [h]
theorem plS_some {s : St} {v i : Int} {l : List Kx} (h : ixS s l = some i) : plS s v l = if hasS s v i = true then some i else none := by unfold plS; rw [h]
set_option maxRecDepth 100000 in
set_option maxHeartbeats 4000000 in
theorem RPlace_any (s : St) (S : Option Addr) (sn sc : Nat) (hs : s.length = sn) (v : Int) (l : List Kx) (A : Option Addr) (n c : Nat) (w : World) (R : KrR w A c l) (hn : l.length = n) (T : StR w S sc s) : Calls Tryd.prog 22 #[.slice S sn sc, .agg #[.int .i64 v, .slice A n c]] w fun en w' => en = .returned (plR v (plS s v l)) ∧ Below w.heap.size w w' := by
  have hsz : (n : Int) ≤ 9223372036854775807 := by have := R.le; have := R.mx; unfold maxLen at this; omega
  have HV : Hid (PB w (w.alloc (.cells #[.int .i64 v, .slice A n c] 50)) v A n c s S sc) := Lib.hid ⟨bal (b0 w) _, boxS_new w _ _, T.keep (bal (b0 w) _)⟩
  obtain ⟨p0, p1⟩ := HV.out.c
  have HP := Lib.hid fun X (H : Hid (PB w X v A n c s S sc)) => H.out.c
  have CA := Lib.hid fun X (H : Hid (PB w X v A n c s S sc)) i => RAt_any s S sn sc v i X H.out.st hs
  by_cases h2 : 1 < n
  · rw [plS_none (ixS_2 (by omega)), plR_none]
    have q0 : decide ((1 : Int) < (n : Int)) = true := decide_eq_true (by omega)
    clear R T hn hs h2 CA
    go_enter Tryd.func22, Tryd.ntmps22
    go_wp2
    exact bodyPost_ret (v := .tuple #[.int .i64 0, .int .i64 0, .bool false]) (by simp [results, Tryd.results22, go_sem]) rfl ⟨rfl, HV.out.b⟩
  by_cases h0 : n = 0
  · subst h0
    rw [plS_some (ixS_0 hn)]
    have CA2 := CA.out _ HV 0
    rw [at_has] at CA2
    unfold apR at CA2
    generalize hasS s v 0 = F at *
    generalize List.getD _ _ 0 = u at CA2
    have CA2 := Lib.hid CA2
    clear R T hn hs h2 CA
    cases F with
    | true =>
      rw [if_pos rfl, plR_some]
      go_enter Tryd.func22, Tryd.ntmps22
      go_wp2_with (go_at_call 51; (with_reducible refine (CA2.out).mono ?_); rintro en w2 ⟨rfl, rfl⟩)
      exact bodyPost_ret (v := .tuple #[.int .i64 v, .int .i64 0, .bool true]) (by simp [results, Tryd.results22, go_sem]) rfl ⟨rfl, HV.out.b⟩
    | false =>
      rw [if_neg (by simp), plR_none]
      go_enter Tryd.func22, Tryd.ntmps22
      go_wp2_with (go_at_call 51; (with_reducible refine (CA2.out).mono ?_); rintro en w2 ⟨rfl, rfl⟩)
      exact bodyPost_ret (v := .tuple #[.int .i64 0, .int .i64 0, .bool false]) (by simp [results, Tryd.results22, go_sem]) rfl ⟨rfl, HV.out.b⟩
  obtain rfl : n = 1 := by omega
  obtain ⟨ad, rfl, B, m, d, hm, hok, Ra, x0, x1, x2, x3, x4, x5⟩ := (R.keep HV.out.b).first (by omega)
  have C := RValue_any s S sn sc hs (l.getD 0 k0) B m d _ Ra hok hm HV.out.st
  have hw : ∀ y, valK s (l.getD 0 k0) = some y → inW y := fun y hy => by
    unfold valK at hy
    split at hy
    · rename_i hmy
      refine vl_w T.w _ (may_iff.1 hmy).1 ?_ y hy
      exact wn_mem R.wn (memK (by omega))
    · cases hy
  have hix := ixS_1 (s := s) hn
  cases hy : valK s (l.getD 0 k0) with
  | none =>
    rw [hy] at C hix
    rw [plS_none hix, plR_none]
    unfold apR at C
    have C := Lib.hid C
    clear R Ra T hn hs hok hm hw hy hix h2 h0 CA
    generalize l.getD 0 k0 = e at *
    dsimp only [kxV] at *
    go_enter Tryd.func22, Tryd.ntmps22
    go_wp2_with (go_at_call 20; (with_reducible refine (C.out).mono ?_); rintro en w2 ⟨rfl, b⟩; have H2 := Lib.hid (HV.out.step b); clear b)
    exact bodyPost_ret (v := .tuple #[.int .i64 0, .int .i64 0, .bool false]) (by simp [results, Tryd.results22, go_sem]) rfl ⟨rfl, H2.out.b⟩
  | some y =>
    obtain ⟨hy1, hy2⟩ := hw y hy
    rw [hy] at C hix
    rw [plS_some hix]
    unfold apR at C
    rw [show (some y).getD 0 = y from rfl] at C
    have C := Lib.hid C
    have CA2 := Lib.hid fun X H => CA.out X H y
    clear R Ra T hn hs hok hm hw hy hix h2 h0 CA
    rw [at_has] at CA2
    unfold apR at CA2
    generalize hasS s v y = F at *
    generalize List.getD _ y.toNat _ = u at CA2
    generalize l.getD 0 k0 = e at *
    dsimp only [kxV] at *
    cases F with
    | true =>
      rw [if_pos rfl, plR_some]
      go_enter Tryd.func22, Tryd.ntmps22
      go_wp2_with (first
        | (go_at_call 20; (with_reducible refine (C.out).mono ?_); rintro en w2 ⟨rfl, b⟩; have H2 := Lib.hid (HV.out.step b); clear b; clear p0 p1 x0 x1 x2 x3 x4 x5; obtain ⟨p0, p1⟩ := HP.out _ H2)
        | (go_at_call 51; (with_reducible refine (CA2.out _ H2).mono ?_); rintro en w2' ⟨rfl, rfl⟩))
      exact bodyPost_ret (v := .tuple #[.int .i64 v, .int .i64 y, .bool true]) (by simp [results, Tryd.results22, go_sem]) rfl ⟨rfl, H2.out.b⟩
    | false =>
      rw [if_neg (by simp), plR_none]
      go_enter Tryd.func22, Tryd.ntmps22
      go_wp2_with (first
        | (go_at_call 20; (with_reducible refine (C.out).mono ?_); rintro en w2 ⟨rfl, b⟩; have H2 := Lib.hid (HV.out.step b); clear b; clear p0 p1 x0 x1 x2 x3 x4 x5; obtain ⟨p0, p1⟩ := HP.out _ H2)
        | (go_at_call 51; (with_reducible refine (CA2.out _ H2).mono ?_); rintro en w2' ⟨rfl, rfl⟩))
      exact bodyPost_ret (v := .tuple #[.int .i64 0, .int .i64 0, .bool false]) (by simp [results, Tryd.results22, go_sem]) rfl ⟨rfl, H2.out.b⟩
end Go.Proofs.YtblckajejohlbaaDoor
/- The laws' helpers: trees that are built; is, faults; great; uses. -/
set_option linter.unusedVariables false
set_option linter.unusedSimpArgs false
namespace Go.Proofs.YtblckajejohlbaaDoor
open Go Go.RowKit L8 L22 L17
open L14 (inW)

def AnK (w : World) (f : Kx) (e : Ending) (w' : World) : Prop := ∃ A c, e = .returned (kxV f A f.l.length c) ∧ KrR w' A c f.l ∧ Below w.heap.size w w'
theorem number_any (v : Int) (w : World) : Calls Tryd.prog 31 #[.int .i32 v] w (fun e w' => e = .returned (.agg #[.int .u8 1, .int .u8 0, .int .u8 0, .int .i32 v, .int .i64 0, .slice none 0 0]) ∧ Below w.heap.size w w') := by
  go_enter Tryd.func31, Tryd.ntmps31
  go_wp2
  obtain ⟨p0, p1, p2, p3, p4, p5⟩ := box6 (boxS_new w 45 #[.int .u8 1, .int .u8 0, .int .u8 0, .int .i32 v, .int .i64 0, .slice none 0 0])
  refine bodyPost_ret (v := .agg #[.int .u8 1, .int .u8 0, .int .u8 0, .int .i32 v, .int .i64 0, .slice none 0 0]) (by simp [results, Tryd.results31, go_sem, p0, p1, p2, p3, p4, p5]) rfl ⟨rfl, bal (b0 w) _⟩
theorem variable_any (v : Int) (w : World) : Calls Tryd.prog 36 #[.int .i64 v] w (fun e w' => e = .returned (.agg #[.int .u8 2, .int .u8 0, .int .u8 0, .int .i32 0, .int .i64 v, .slice none 0 0]) ∧ Below w.heap.size w w') := by
  go_enter Tryd.func36, Tryd.ntmps36
  go_wp2
  obtain ⟨p0, p1, p2, p3, p4, p5⟩ := box6 (boxS_new w 45 #[.int .u8 2, .int .u8 0, .int .u8 0, .int .i32 0, .int .i64 v, .slice none 0 0])
  refine bodyPost_ret (v := .agg #[.int .u8 2, .int .u8 0, .int .u8 0, .int .i32 0, .int .i64 v, .slice none 0 0]) (by simp [results, Tryd.results36, go_sem, p0, p1, p2, p3, p4, p5]) rfl ⟨rfl, bal (b0 w) _⟩
theorem KrR.one {W : World} {g d : Nat} {t : TypeId} {y : Kx} {B : Option Addr} (h : BoxS W g t (kxC y B y.l.length d)) (ok : OKk y) (ty : KrR W B d y.l) : KrR W (some ⟨g, 0, none⟩) 1 [y] := by
  refine .mk (fun j => B) (fun j => d) (Nat.le_refl _) (by simp [maxLen]) (fun j hj => ?_) (fun j hj => ?_) (fun j hj => ?_)
  all_goals (have hj2 : j < 1 := hj; obtain rfl : j = 0 := by omega)
  · exact ok
  · exact ⟨_, rfl, (h.cell 0).trans rfl, (h.cell 1).trans rfl, (h.cell 2).trans rfl, (h.cell 3).trans rfl, (h.cell 4).trans rfl, (h.cell 5).trans rfl⟩
  · exact ty
set_option maxRecDepth 100000 in
set_option maxHeartbeats 4000000 in
theorem element_any (v : Int) (y : Kx) (A : Option Addr) (n c : Nat) (w : World) (hn : y.l.length = n) (Ry : KrR w A c y.l) (oky : OKk y) : Calls Tryd.prog 30 #[.int .i64 v, kxV y A n c] w (AnK w (kE v y)) := by
  have hP := box6 (boxS_new w 45 (kxC y A n c))
  subst hn
  have HE : Hid (∀ (X : World), Below w.heap.size w X → KrR (X.alloc (.cells (kxC y A y.l.length c) 45)) (some ⟨X.heap.size, 0, none⟩) 1 [y]) := Lib.hid fun X b => KrR.one (boxS_new X _ _) oky ((Ry.keep b).keep (bal (b0 X) _))
  unfold AnK
  clear Ry oky
  dsimp only [kxV, kxC] at *
  obtain ⟨p0, p1, p2, p3, p4, p5⟩ := hP
  go_enter Tryd.func30, Tryd.ntmps30
  go_wp2
  obtain ⟨r0, r1, r2, r3, r4, r5⟩ := box6 ((boxS_new (w.alloc (.cells #[.int .u8 (y.k : Int), .int .u8 (y.o : Int), .int .u8 (y.t : Int), .int .i32 y.n, .int .i64 y.v, .slice A y.l.length c] 45)) 45 #[.int .u8 3, .int .u8 0, .int .u8 0, .int .i32 0, .int .i64 v, .slice (some ⟨w.heap.size + 1 + 1, 0, none⟩) 1 1]).alloc (.cells (kxC y A y.l.length c) 45))
  have h1 := bal (bal (b0 w) (.cells #[.int .u8 (y.k : Int), .int .u8 (y.o : Int), .int .u8 (y.t : Int), .int .i32 y.n, .int .i64 y.v, .slice A y.l.length c] 45)) (.cells #[.int .u8 3, .int .u8 0, .int .u8 0, .int .i32 0, .int .i64 v, .slice (some ⟨w.heap.size + 1 + 1, 0, none⟩) 1 1] 45)
  have h2 := HE.out _ h1
  unfold kxC at *
  simp only [World.size_alloc] at r0 r1 r2 r3 r4 r5 h2
  refine bodyPost_ret (v := .agg #[.int .u8 3, .int .u8 0, .int .u8 0, .int .i32 0, .int .i64 v, .slice (some ⟨w.heap.size + 1 + 1, 0, none⟩) 1 1]) (by simp [results, Tryd.results30, go_sem, r0, r1, r2, r3, r4, r5]) rfl ⟨_, _, rfl, h2, bal h1 _⟩
set_option maxRecDepth 100000 in
set_option maxHeartbeats 4000000 in
theorem not_any (y : Kx) (A : Option Addr) (n c : Nat) (w : World) (hn : y.l.length = n) (Ry : KrR w A c y.l) (oky : OKk y) : Calls Tryd.prog 33 #[kxV y A n c] w (AnK w (k1 26 y)) := by
  have hP := box6 (boxS_new w 45 (kxC y A n c))
  subst hn
  have HE : Hid (∀ (X : World), Below w.heap.size w X → KrR (X.alloc (.cells (kxC y A y.l.length c) 45)) (some ⟨X.heap.size, 0, none⟩) 1 [y]) := Lib.hid fun X b => KrR.one (boxS_new X _ _) oky ((Ry.keep b).keep (bal (b0 X) _))
  unfold AnK
  clear Ry oky
  dsimp only [kxV, kxC] at *
  obtain ⟨p0, p1, p2, p3, p4, p5⟩ := hP
  go_enter Tryd.func33, Tryd.ntmps33
  go_wp2
  obtain ⟨r0, r1, r2, r3, r4, r5⟩ := box6 ((boxS_new (w.alloc (.cells #[.int .u8 (y.k : Int), .int .u8 (y.o : Int), .int .u8 (y.t : Int), .int .i32 y.n, .int .i64 y.v, .slice A y.l.length c] 45)) 45 #[.int .u8 4, .int .u8 26, .int .u8 0, .int .i32 0, .int .i64 0, .slice (some ⟨w.heap.size + 1 + 1, 0, none⟩) 1 1]).alloc (.cells (kxC y A y.l.length c) 45))
  have h1 := bal (bal (b0 w) (.cells #[.int .u8 (y.k : Int), .int .u8 (y.o : Int), .int .u8 (y.t : Int), .int .i32 y.n, .int .i64 y.v, .slice A y.l.length c] 45)) (.cells #[.int .u8 4, .int .u8 26, .int .u8 0, .int .i32 0, .int .i64 0, .slice (some ⟨w.heap.size + 1 + 1, 0, none⟩) 1 1] 45)
  have h2 := HE.out _ h1
  unfold kxC at *
  simp only [World.size_alloc] at r0 r1 r2 r3 r4 r5 h2
  refine bodyPost_ret (v := .agg #[.int .u8 4, .int .u8 26, .int .u8 0, .int .i32 0, .int .i64 0, .slice (some ⟨w.heap.size + 1 + 1, 0, none⟩) 1 1]) (by simp [results, Tryd.results33, go_sem, r0, r1, r2, r3, r4, r5]) rfl ⟨_, _, rfl, h2, bal h1 _⟩
def prK (y z : Kx) (B : Option Addr) (d : Nat) (C : Option Addr) (e : Nat) : Array Value := #[.int .u8 (y.k : Int), .int .u8 (y.o : Int), .int .u8 (y.t : Int), .int .i32 y.n, .int .i64 y.v, .slice B y.l.length d, .int .u8 (z.k : Int), .int .u8 (z.o : Int), .int .u8 (z.t : Int), .int .i32 z.n, .int .i64 z.v, .slice C z.l.length e]
theorem KrR.two {W : World} {g d e : Nat} {t : TypeId} {y z : Kx} {B C : Option Addr} (h : BoxS W g t (prK y z B d C e)) (ok : OKk y) (ok2 : OKk z) (ty : KrR W B d y.l) (tz : KrR W C e z.l) : KrR W (some ⟨g, 0, none⟩) 2 [y, z] := by
  refine .mk (fun j => if j = 0 then B else C) (fun j => if j = 0 then d else e) (Nat.le_refl _) (by simp [maxLen]) (fun j hj => ?_) (fun j hj => ?_) (fun j hj => ?_)
  all_goals (have hj2 : j < 2 := hj; rcases (show j = 0 ∨ j = 1 by omega) with rfl | rfl)
  · exact ok
  · exact ok2
  · exact ⟨_, rfl, (h.cell 0).trans rfl, (h.cell 1).trans rfl, (h.cell 2).trans rfl, (h.cell 3).trans rfl, (h.cell 4).trans rfl, (h.cell 5).trans rfl⟩
  · exact ⟨_, rfl, (h.cell 6).trans rfl, (h.cell 7).trans rfl, (h.cell 8).trans rfl, (h.cell 9).trans rfl, (h.cell 10).trans rfl, (h.cell 11).trans rfl⟩
  · exact ty
  · exact tz
set_option maxRecDepth 100000 in
set_option maxHeartbeats 4000000 in
theorem two_any (o : Nat) (y z : Kx) (A B : Option Addr) (n m c d : Nat) (w : World) (hn : y.l.length = n) (hm : z.l.length = m) (Ry : KrR w A c y.l) (Rz : KrR w B d z.l) (oky : OKk y) (okz : OKk z) : Calls Tryd.prog 32 #[.int .u8 (o : Int), kxV y A n c, kxV z B m d] w (AnK w (k2 o y z)) := by
  have hP := box6 ((boxS_new w 45 (kxC y A n c)).alloc (.cells (kxC z B m d) 45))
  have hQ := box6 (boxS_new (w.alloc (.cells (kxC y A n c) 45)) 45 (kxC z B m d))
  subst hn hm
  have HE : Hid (∀ (X : World) (cs : TypeId), Below w.heap.size w X → KrR (X.alloc (.cells (prK y z A c B d) cs)) (some ⟨X.heap.size, 0, none⟩) 2 [y, z]) := Lib.hid fun X cs b => KrR.two (boxS_new X cs (prK y z A c B d)) oky okz ((Ry.keep b).keep (bal (b0 X) _)) ((Rz.keep b).keep (bal (b0 X) _))
  unfold AnK
  clear Ry Rz oky okz
  dsimp only [kxV, kxC] at *
  rw [World.size_alloc] at hQ
  obtain ⟨p0, p1, p2, p3, p4, p5⟩ := hP
  obtain ⟨q0, q1, q2, q3, q4, q5⟩ := hQ
  go_enter Tryd.func32, Tryd.ntmps32
  go_wp2
  obtain ⟨r0, r1, r2, r3, r4, r5⟩ := box6 ((boxS_new ((w.alloc (.cells #[.int .u8 (y.k : Int), .int .u8 (y.o : Int), .int .u8 (y.t : Int), .int .i32 y.n, .int .i64 y.v, .slice A y.l.length c] 45)).alloc (.cells #[.int .u8 (z.k : Int), .int .u8 (z.o : Int), .int .u8 (z.t : Int), .int .i32 z.n, .int .i64 z.v, .slice B z.l.length d] 45)) 45 #[.int .u8 5, .int .u8 (o : Int), .int .u8 0, .int .i32 0, .int .i64 0, .slice (some ⟨w.heap.size + 1 + 1 + 1, 0, none⟩) 2 2]).alloc (.cells (prK y z A c B d) 45))
  have h1 := bal (bal (bal (b0 w) (.cells #[.int .u8 (y.k : Int), .int .u8 (y.o : Int), .int .u8 (y.t : Int), .int .i32 y.n, .int .i64 y.v, .slice A y.l.length c] 45)) (.cells #[.int .u8 (z.k : Int), .int .u8 (z.o : Int), .int .u8 (z.t : Int), .int .i32 z.n, .int .i64 z.v, .slice B z.l.length d] 45)) (.cells #[.int .u8 5, .int .u8 (o : Int), .int .u8 0, .int .i32 0, .int .i64 0, .slice (some ⟨w.heap.size + 1 + 1 + 1, 0, none⟩) 2 2] 45)
  have h2 := HE.out _ 45 h1
  unfold prK at *
  simp only [World.size_alloc] at r0 r1 r2 r3 r4 r5 h2
  refine bodyPost_ret (v := .agg #[.int .u8 5, .int .u8 (o : Int), .int .u8 0, .int .i32 0, .int .i64 0, .slice (some ⟨w.heap.size + 1 + 1 + 1, 0, none⟩) 2 2]) (by simp [results, Tryd.results32, go_sem, r0, r1, r2, r3, r4, r5]) rfl ⟨_, _, rfl, h2, bal h1 _⟩
/-! ### is, faults -/
def isB (y : Option Int) (want : Int) : Bool := (y.getD 0 == want) && y.isSome
def ftB (y : Option Int) : Bool := (y.getD 0 == 0) && !y.isSome
set_option maxRecDepth 100000 in
set_option maxHeartbeats 4000000 in
theorem is_any (s : St) (S : Option Addr) (sn sc : Nat) (hs : s.length = sn) (e : Kx) (A : Option Addr) (n c : Nat) (want : Int) (w : World) (R : KrR w A c e.l) (hok : OKk e) (hn : e.l.length = n) (T : StR w S sc s) (hT : T17 w) : Calls Tryd.prog 29 #[.slice S sn sc, kxV e A n c, .int .i32 want] w fun en w' => en = .returned (.bool (isB (valK s e) want)) ∧ Below w.heap.size w w' := by
  have HV := Lib.hid (VS.new (n := n) R T)
  have C := Lib.hid (PValue_any s S sn sc hs e A n c _ HV.out.tr hok hn HV.out.st (hT.below HV.out.bel))
  obtain ⟨p0, p1, p2, p3, p4, p5⟩ := HV.out.box
  unfold isB apR at *
  obtain ⟨b, hb⟩ : ∃ b, ((valK s e).getD 0 == want) = b := ⟨_, rfl⟩
  rw [hb]
  generalize (valK s e).getD 0 = y at *
  generalize (valK s e).isSome = z at *
  clear R T hok hn hT
  dsimp only [kxV, kxC] at *
  go_enter Tryd.func29, Tryd.ntmps29
  cases b <;> (go_wp2_with (go_at_call 19; (with_reducible refine (C.out).mono ?_); rintro en w2 ⟨rfl, b⟩; have H2 := Lib.hid (HV.out.step b); clear b); go_ret; exact ⟨by simp, H2.out.bel⟩)
set_option maxRecDepth 100000 in
set_option maxHeartbeats 4000000 in
theorem faults_any (s : St) (S : Option Addr) (sn sc : Nat) (hs : s.length = sn) (e : Kx) (A : Option Addr) (n c : Nat) (w : World) (R : KrR w A c e.l) (hok : OKk e) (hn : e.l.length = n) (T : StR w S sc s) (hT : T17 w) : Calls Tryd.prog 34 #[.slice S sn sc, kxV e A n c] w fun en w' => en = .returned (.bool (ftB (valK s e))) ∧ Below w.heap.size w w' := by
  have HV := Lib.hid (VS.new (n := n) R T)
  have C := Lib.hid (PValue_any s S sn sc hs e A n c _ HV.out.tr hok hn HV.out.st (hT.below HV.out.bel))
  obtain ⟨p0, p1, p2, p3, p4, p5⟩ := HV.out.box
  unfold ftB apR at *
  obtain ⟨b, hb⟩ : ∃ b, ((valK s e).getD 0 == 0) = b := ⟨_, rfl⟩
  rw [hb]
  generalize (valK s e).getD 0 = y at *
  generalize (valK s e).isSome = z at *
  clear R T hok hn hT
  dsimp only [kxV, kxC] at *
  go_enter Tryd.func34, Tryd.ntmps34
  cases b <;> (go_wp2_with (go_at_call 19; (with_reducible refine (C.out).mono ?_); rintro en w2 ⟨rfl, b⟩; have H2 := Lib.hid (HV.out.step b); clear b); go_ret; exact ⟨by simp, H2.out.bel⟩)
/-! ### great -/
def sumL (s : St) : Nat := (s.map List.length).sum
def grS (s : St) : Nat := s.length + sumL (s.take 300)
theorem sum_take {s : St} {j : Nat} (h : j < s.length) : sumL (s.take (j + 1)) = sumL (s.take j) + (s.getD j []).length := by
  unfold sumL
  rw [List.take_succ_eq_append_getElem h, List.map_append, List.sum_append, List.getD_eq_getElem?_getD, List.getElem?_eq_getElem h]
  simp
theorem sum_le {s : St} (h : ∀ l ∈ s, l.length * 4 ≤ 140737488355328) : sumL s ≤ s.length * 35184372088832 := by
  unfold sumL
  induction s with
  | nil => simp
  | cons x r ih =>
    have := ih fun l hl => h l (List.mem_cons_of_mem _ hl)
    have := h x (List.mem_cons_self ..)
    simp only [List.map_cons, List.sum_cons, List.length_cons]
    omega
set_option maxRecDepth 100000 in
set_option maxHeartbeats 4000000 in
theorem great_any (s : St) (A : Option Addr) (n c : Nat) (w : World) (R : StR w A c s) (hn : s.length = n) (hB : ∀ l ∈ s, l.length * 4 ≤ 140737488355328) (h24 : n * 24 ≤ 140737488355328) : Calls Tryd.prog 11 #[.slice A n c] w fun en w' => en = .returned (.bool (decide (600 < grS s))) ∧ w = w' := by
  have hn1 : (n : Int) ≤ 5864062014806 := by omega
  have hn0 : (0 : Int) ≤ (n : Int) := by omega
  have HR := Lib.hid R
  have HN := Lib.hid hn
  obtain ⟨K, hK⟩ : ∃ K, min n 300 = K := ⟨_, rfl⟩
  have hK1 : K ≤ n := by omega
  have hK3 : K ≤ 300 := by omega
  have hgr : grS s = n + sumL (s.take K) := by
    unfold grS
    rw [hn]
    congr 2
    by_cases h : n ≤ 300
    · rw [List.take_of_length_le (by omega), List.take_of_length_le (by omega)]
    · rw [show K = 300 by omega]
  have hS : ∀ j, j ≤ K → sumL (s.take j) ≤ 10555311626649600 := fun j hj => by
    have := sum_le (s := s.take j) fun l hl => hB l (List.mem_of_mem_take hl)
    rw [List.length_take] at this
    have : min j s.length ≤ 300 := by omega
    calc _ ≤ _ := by assumption
      _ ≤ 300 * 35184372088832 := Nat.mul_le_mul_right _ this
      _ ≤ _ := by decide
  have HS := Lib.hid hS
  have HT := Lib.hid fun j (h : j < n) => sum_take (s := s) (j := j) (by omega)
  have HB := Lib.hid fun j (h : j < n) => (show (s.getD j []).length * 4 ≤ 140737488355328 from hB _ (by rw [List.getD_eq_getElem?_getD, List.getElem?_eq_getElem (by omega)]; exact List.getElem_mem (by omega)))
  have HE := Lib.hid (show decide ((600 : Int) < ((n + sumL (s.take K) : Nat) : Int)) = decide (600 < grS s) by rw [hgr]; exact decide_eq_decide.2 (by omega))
  have hz0 : sumL (s.take 0) = 0 := rfl
  have hm0 : (0 : Int) ≤ (K : Int) := by omega
  clear R hB hS hgr hn
  go_enter Tryd.func11, Tryd.ntmps11
  have key : min (n : Int) 300 = (K : Int) := by omega
  by_cases hc : n ≤ 300
  · obtain rfl : K = n := by omega
    have hc' : (K : Int) ≤ 300 := by omega
    go_wp2
    go_loopw [3, 10] (fun z ι wr => ∃ j : Nat, j ≤ K ∧ z = .int .i64 ((K + sumL (s.take j) : Nat) : Int) ∧ ι = .int .i64 j ∧ w = wr) (fun _ ι _ => K - (intOf ι).toNat)
    case atStart => exact ⟨0, Nat.zero_le _, by rw [hz0]; rfl, rfl, rfl⟩
    case round =>
      obtain ⟨j, hj, rfl, rfl, rfl⟩ := hrel
      have hj0 : (0 : Int) ≤ (j : Int) := by omega
      have hs := HS.out j hj
      by_cases hlt : (j : Int) < (K : Int)
      · obtain ⟨a, rfl, P, m, d, hm, x0, _⟩ := HR.out.rd j (by have := HN.out; omega)
        have ht := HT.out j (by omega)
        have hb := HB.out j (by omega)
        rw [hm] at ht hb
        clear hm
        generalize hu : sumL (s.take (j + 1)) = u at *
        generalize sumL (s.take j) = v at *
        go_wp2
        go_roundw
        case rel => exact ⟨j + 1, by omega, by rw [hu]; go_num, by go_num, by first | trivial | rfl⟩
        case measure => simp [intOf]; omega
      · obtain rfl : j = K := by omega
        have hE := HE.out
        generalize sumL (s.take j) = v at *
        go_wp2
        go_ret
        exact ⟨ret_b hE, rfl⟩
  · obtain rfl : K = 300 := by omega
    have hc' : (300 : Int) < (n : Int) := by omega
    go_wp2
    go_loopw [3, 10] (fun z ι wr => ∃ j : Nat, j ≤ 300 ∧ z = .int .i64 ((n + sumL (s.take j) : Nat) : Int) ∧ ι = .int .i64 j ∧ w = wr) (fun _ ι _ => 300 - (intOf ι).toNat)
    case atStart => exact ⟨0, Nat.zero_le _, by rw [hz0]; rfl, rfl, rfl⟩
    case round =>
      obtain ⟨j, hj, rfl, rfl, rfl⟩ := hrel
      have hj0 : (0 : Int) ≤ (j : Int) := by omega
      have hs := HS.out j hj
      by_cases hlt : (j : Int) < 300
      · obtain ⟨a, rfl, P, m, d, hm, x0, _⟩ := HR.out.rd j (by have := HN.out; omega)
        have ht := HT.out j (by omega)
        have hb := HB.out j (by omega)
        rw [hm] at ht hb
        have hjn : (j : Int) < (n : Int) := by omega
        clear hm
        generalize hu : sumL (s.take (j + 1)) = u at *
        generalize sumL (s.take j) = v at *
        go_wp2
        go_roundw
        case rel => exact ⟨j + 1, by omega, by rw [hu]; go_num, by go_num, by first | trivial | rfl⟩
        case measure => simp [intOf]; omega
      · obtain rfl : j = 300 := by omega
        have hE := HE.out
        generalize sumL (s.take 300) = v at *
        go_wp2
        go_ret
        exact ⟨ret_b hE, rfl⟩
end Go.Proofs.YtblckajejohlbaaDoor
/- The laws' examples: what they are, the contracts at them. -/
set_option linter.unusedVariables false
set_option linter.unusedSimpArgs false
namespace Go.Proofs.YtblckajejohlbaaDoor
open Go Go.RowKit L8 L22 L17
open L14 (inW)

def s0X : St := [[7], [1, 2, 3]]
def xX : Kx := kV 0
def t1X : Kx := k2 2 xX (kN 7)
def t2X : Kx := k2 4 (kN 1) t1X
def inX : Kx := k2 14 t2X (kN 1)
def e1X : Kx := kE 1 (k2 2 xX (kN 5))
def e2X : Kx := kE 1 xX
def e3X : Kx := k2 20 (k2 14 xX (kN 0)) inX
def e4X : Kx := k2 20 (k2 14 xX (kN 7)) inX
def e5X : Kx := k2 20 (kN 5) (kN 1)
def e6X : Kx := kV 2
theorem v1X : isB (valK s0X e1X) 3 = true := by decide +kernel
theorem v2X : ftB (valK s0X e2X) = true := by decide +kernel
theorem v3X : isB (valK s0X e3X) 0 = true := by decide +kernel
theorem v4X : ftB (valK s0X e4X) = true := by decide +kernel
theorem v5X : ftB (valK s0X e5X) = true := by decide +kernel
theorem v6X : ftB (valK s0X e6X) = true := by decide +kernel
def vsX : List Vr := [(1, 0), (3, 3)]
theorem plX : plS [[5, 6, 7]] 0 [kN 2] = some 2 := by decide +kernel
theorem puX : putS [[5, 6, 7]] 0 1 9 = [[5, 9, 7]] := by decide +kernel
theorem snX : sndL vsX = true := by decide +kernel
theorem stX : stoV vsX = [[0], [0, 0, 0]] := by decide +kernel
theorem m1X : mayS vsX [[-9], [0, 1, 0]] = true := by decide +kernel
theorem m2X : mayS vsX [[-9], [0, 2, 0]] = false := by decide +kernel
theorem ok_kN {v : Int} (h : inW v) : OKk (kN v) := ⟨by show (1 : Nat) < 256; decide, by show (0 : Nat) < 256; decide, by show (0 : Nat) < 256; decide, h.1, h.2, by show (-9223372036854775808 : Int) ≤ 0; decide, by show (0 : Int) ≤ 9223372036854775807; decide⟩
theorem ok_kV {v : Int} (h0 : -9223372036854775808 ≤ v) (h1 : v ≤ 9223372036854775807) : OKk (kV v) := ⟨by show (2 : Nat) < 256; decide, by show (0 : Nat) < 256; decide, by show (0 : Nat) < 256; decide, by show (-2147483648 : Int) ≤ 0; decide, by show (0 : Int) ≤ 2147483647; decide, h0, h1⟩
theorem ok_k2 {o : Nat} {a b : Kx} (h : o < 256) : OKk (k2 o a b) := ⟨by show (5 : Nat) < 256; decide, h, by show (0 : Nat) < 256; decide, by show (-2147483648 : Int) ≤ 0; decide, by show (0 : Int) ≤ 2147483647; decide, by show (-9223372036854775808 : Int) ≤ 0; decide, by show (0 : Int) ≤ 9223372036854775807; decide⟩
theorem ok_k1 {o : Nat} {a : Kx} (h : o < 256) : OKk (k1 o a) := ⟨by show (4 : Nat) < 256; decide, h, by show (0 : Nat) < 256; decide, by show (-2147483648 : Int) ≤ 0; decide, by show (0 : Int) ≤ 2147483647; decide, by show (-9223372036854775808 : Int) ≤ 0; decide, by show (0 : Int) ≤ 9223372036854775807; decide⟩
theorem ok_kE {v : Int} {a : Kx} (h0 : -9223372036854775808 ≤ v) (h1 : v ≤ 9223372036854775807) : OKk (kE v a) := ⟨by show (3 : Nat) < 256; decide, by show (0 : Nat) < 256; decide, by show (0 : Nat) < 256; decide, by show (-2147483648 : Int) ≤ 0; decide, by show (0 : Int) ≤ 2147483647; decide, h0, h1⟩
theorem w7 : ∀ v : Int, 0 ≤ v → v ≤ 9 → inW v := fun v h0 h1 => ⟨by omega, by omega⟩
theorem two_is (o : Nat) (q : Int) (y z : Kx) (A B : Option Addr) (c d : Nat) (vy vz : Value) (hq : (o : Int) = q) (hy : kxV y A y.l.length c = vy) (hz : kxV z B z.l.length d = vz) (w : World) (Ry : KrR w A c y.l) (Rz : KrR w B d z.l) (oky : OKk y) (okz : OKk z) :
    Calls Tryd.prog 32 #[.int .u8 q, vy, vz] w fun e w' => ∃ A' c', e = .returned (.agg #[.int .u8 5, .int .u8 q, .int .u8 0, .int .i32 0, .int .i64 0, .slice A' 2 c']) ∧ KrR w' A' c' [y, z] ∧ Below w.heap.size w w' := by
  subst hq hy hz
  exact two_any o y z A B _ _ c d w rfl rfl Ry Rz oky okz
theorem elem_is (v : Int) (y : Kx) (A : Option Addr) (c : Nat) (vy : Value) (hy : kxV y A y.l.length c = vy) (w : World) (Ry : KrR w A c y.l) (oky : OKk y) :
    Calls Tryd.prog 30 #[.int .i64 v, vy] w fun e w' => ∃ A' c', e = .returned (.agg #[.int .u8 3, .int .u8 0, .int .u8 0, .int .i32 0, .int .i64 v, .slice A' 1 c']) ∧ KrR w' A' c' [y] ∧ Below w.heap.size w w' := by
  subst hy
  exact element_any v y A _ c w rfl Ry oky
theorem is_is {s : St} {e : Kx} {want : Int} (h : isB (valK s e) want = true) {S : Option Addr} {sn sc : Nat} (hs : s.length = sn) {A : Option Addr} {c : Nat} {v : Value} (hv : kxV e A e.l.length c = v) (ok : OKk e) (w : World) (R : KrR w A c e.l) (T : StR w S sc s) (hT : T17 w) :
    Calls Tryd.prog 29 #[.slice S sn sc, v, .int .i32 want] w fun en w' => en = .returned (.bool true) ∧ Below w.heap.size w w' := by
  have := is_any s S sn sc hs e A e.l.length c want w R ok rfl T hT
  rw [h, hv] at this
  exact this
theorem ft_is {s : St} {e : Kx} (h : ftB (valK s e) = true) {S : Option Addr} {sn sc : Nat} (hs : s.length = sn) {A : Option Addr} {c : Nat} {v : Value} (hv : kxV e A e.l.length c = v) (ok : OKk e) (w : World) (R : KrR w A c e.l) (T : StR w S sc s) (hT : T17 w) :
    Calls Tryd.prog 34 #[.slice S sn sc, v] w fun en w' => en = .returned (.bool true) ∧ Below w.heap.size w w' := by
  have := faults_any s S sn sc hs e A e.l.length c w R ok rfl T hT
  rw [h, hv] at this
  exact this
/-! ### Stores that are built -/
theorem wor_box {W : World} {a : Nat} {l : List Int} (h : BoxS W a 21 (wv l).toArray) (hw : ∀ x ∈ l, inW x) (hl : l.length ≤ 100) : WoR W (some ⟨a, 0, none⟩) l.length l :=
  ⟨Nat.le_refl _, by unfold maxLen; omega, fun j hj => ⟨_, rfl, by rw [add_plain, Nat.zero_add, h.cell j, List.getElem?_toArray, wv_at hj]⟩, hw⟩
theorem str_one {W : World} {g a : Nat} {l : List Int} (h : BoxS W a 21 (wv l).toArray) (o : BoxS W g 54 #[.slice (some ⟨a, 0, none⟩) l.length l.length]) (hw : ∀ x ∈ l, inW x) (hl : l.length ≤ 100) : StR W (some ⟨g, 0, none⟩) 1 [l] :=
  ⟨Nat.le_refl _, by unfold maxLen; omega, fun j hj => by
    obtain rfl : j = 0 := by simpa using hj
    exact ⟨_, rfl, _, _, _, rfl, (o.cell 0).trans rfl, wor_box h hw hl⟩⟩
theorem str_two {W : World} {g a b : Nat} {l r : List Int} (h : BoxS W a 21 (wv l).toArray) (k : BoxS W b 21 (wv r).toArray) (o : BoxS W g 54 #[.slice (some ⟨a, 0, none⟩) l.length l.length, .slice (some ⟨b, 0, none⟩) r.length r.length]) (hw : ∀ x ∈ l, inW x) (hw2 : ∀ x ∈ r, inW x) (hl : l.length ≤ 100) (hr : r.length ≤ 100) : StR W (some ⟨g, 0, none⟩) 2 [l, r] :=
  ⟨Nat.le_refl _, by unfold maxLen; omega, fun j hj => by
    have hj2 : j < 2 := hj
    rcases (show j = 0 ∨ j = 1 by omega) with rfl | rfl
    · exact ⟨_, rfl, _, _, _, rfl, (o.cell 0).trans rfl, wor_box h hw hl⟩
    · exact ⟨_, rfl, _, _, _, rfl, (o.cell 1).trans rfl, wor_box k hw2 hr⟩⟩
def iw (l : List Int) : Array Value := (wv l).toArray
/-- A store of two lists, built. -/
theorem bld2 (l r : List Int) (hw : ∀ x ∈ l, inW x) (hw2 : ∀ x ∈ r, inW x) (hl : l.length ≤ 100) (hr : r.length ≤ 100) (w : World) : StR (((w.alloc (.cells (iw l) 21)).alloc (.cells (iw r) 21)).alloc (.cells #[.slice (some ⟨w.heap.size, 0, none⟩) l.length l.length, .slice (some ⟨w.heap.size + 1, 0, none⟩) r.length r.length] 54)) (some ⟨w.heap.size + 1 + 1, 0, none⟩) 2 [l, r] := by
  have h1 := ((boxS_new w 21 (iw l)).alloc (.cells (iw r) 21)).alloc (.cells #[.slice (some ⟨w.heap.size, 0, none⟩) l.length l.length, .slice (some ⟨w.heap.size + 1, 0, none⟩) r.length r.length] 54)
  have h2 := (boxS_new (w.alloc (.cells (iw l) 21)) 21 (iw r)).alloc (.cells #[.slice (some ⟨w.heap.size, 0, none⟩) l.length l.length, .slice (some ⟨w.heap.size + 1, 0, none⟩) r.length r.length] 54)
  have h3 := boxS_new ((w.alloc (.cells (iw l) 21)).alloc (.cells (iw r) 21)) 54 #[.slice (some ⟨w.heap.size, 0, none⟩) l.length l.length, .slice (some ⟨w.heap.size + 1, 0, none⟩) r.length r.length]
  rw [World.size_alloc] at h2
  rw [World.size_alloc, World.size_alloc] at h3
  exact str_two h1 h2 h3 hw hw2 hl hr
theorem bld1 (l : List Int) (hw : ∀ x ∈ l, inW x) (hl : l.length ≤ 100) (w : World) : StR ((w.alloc (.cells (iw l) 21)).alloc (.cells #[.slice (some ⟨w.heap.size, 0, none⟩) l.length l.length] 54)) (some ⟨w.heap.size + 1, 0, none⟩) 1 [l] := by
  have h1 := (boxS_new w 21 (iw l)).alloc (.cells #[.slice (some ⟨w.heap.size, 0, none⟩) l.length l.length] 54)
  have h3 := boxS_new (w.alloc (.cells (iw l) 21)) 54 #[.slice (some ⟨w.heap.size, 0, none⟩) l.length l.length]
  rw [World.size_alloc] at h3
  exact str_one h1 h3 hw hl
theorem smallW {l : List Int} (h : (l.all fun x => decide (-9 ≤ x) && decide (x ≤ 9)) = true) : ∀ x ∈ l, inW x := fun x hx => by
  have := List.all_eq_true.1 h x hx
  simp only [Bool.and_eq_true, decide_eq_true_eq] at this
  exact ⟨by omega, by omega⟩
theorem var_two {W : World} {g : Nat} (o : BoxS W g 79 #[.int .u8 1, .int .i64 0, .int .u8 3, .int .i64 3]) : VaR W (some ⟨g, 0, none⟩) 2 vsX :=
  ⟨Nat.le_refl _, by simp [maxLen], fun j hj => by
    have hj2 : j < 2 := hj
    rcases (show j = 0 ∨ j = 1 by omega) with rfl | rfl
    · exact ⟨_, rfl, (o.cell 0).trans rfl, (o.cell 1).trans rfl⟩
    · exact ⟨_, rfl, (o.cell 2).trans rfl, (o.cell 3).trans rfl⟩, by decide⟩
/-! ### What the examples of the walk answer -/
theorem place_is (g q : Nat) (Y : World) (T : StR Y (some ⟨g, 0, none⟩) 1 [[5, 6, 7]]) (R : KrR Y (some ⟨q, 0, none⟩) 1 [kN 2]) (hT : T17 Y) : Calls Tryd.prog 21 #[.slice (some ⟨g, 0, none⟩) 1 1, .agg #[.int .i64 0, .slice (some ⟨q, 0, none⟩) 1 1]] Y fun en w' => en = .returned (.tuple #[.int .i64 0, .int .i64 2, .bool true]) ∧ Below Y.heap.size Y w' := by
  have := PPlace_any [[5, 6, 7]] (some ⟨g, 0, none⟩) 1 1 rfl 0 [kN 2] (some ⟨q, 0, none⟩) 1 1 Y R rfl T hT
  rw [plX] at this
  exact this
theorem put_is (g : Nat) (Y : World) (T : StR Y (some ⟨g, 0, none⟩) 1 [[5, 6, 7]]) : Calls Tryd.prog 24 #[.slice (some ⟨g, 0, none⟩) 1 1, .int .i64 0, .int .i64 1, .int .i32 9] Y fun en w' => ∃ A c, en = .returned (.slice A 1 c) ∧ StR w' A c [[5, 9, 7]] ∧ Below Y.heap.size Y w' := by
  refine (PPut_any [[5, 6, 7]] (some ⟨g, 0, none⟩) 1 1 0 1 9 ⟨by decide, by decide⟩ Y T rfl (by unfold stB; decide) (by decide)).mono ?_
  rw [puX]
  rintro en w' ⟨A, c, vs, rfl, o, b⟩
  exact ⟨A, c, rfl, o.st, b⟩
theorem store_is (A : Option Addr) (Y : World) (R : VaR Y A 2 vsX) : Calls Tryd.prog 13 #[kzV A 2 2] Y fun en w' => ∃ A c, en = .returned (.slice A 2 c) ∧ StR w' A c [[0], [0, 0, 0]] ∧ Below Y.heap.size Y w' := by
  refine (PStore_yes vsX A 2 2 Y R rfl snX).mono ?_
  rw [stX]
  rintro en w' ⟨A, c, vs, rfl, o, b⟩
  exact ⟨A, c, rfl, o.st, b⟩
theorem same_is {a : St} {A B : Option Addr} {n c d : Nat} (hn : a.length = n) (w : World) (Ra : StR w A c a) (Rb : StR w B d a) : Calls Tryd.prog 18 #[.slice A n c, .slice B n d] w fun en w' => en = .returned (.bool true) ∧ Below w.heap.size w w' := by
  have := PSame_any a a A B n n c d w Ra Rb hn hn
  rw [decide_eq_true rfl] at this
  exact this
theorem may_is {s : St} {p : Bool} (h : mayS vsX s = p) {A B : Option Addr} {d : Nat} (hm : s.length = 2) (w : World) (R : VaR w A 2 vsX) (T : StR w B d s) : Calls Tryd.prog 16 #[kzV A 2 2, .slice B 2 d] w fun en w' => en = .returned (.bool p) ∧ Below w.heap.size w w' := by
  have := PMay_any vsX s A B 2 2 2 d w R T rfl hm
  rw [h] at this
  exact this
theorem b567 (w : World) : StR ((w.alloc (.cells #[.int .i32 5, .int .i32 6, .int .i32 7] 21)).alloc (.cells #[.slice (some ⟨w.heap.size, 0, none⟩) 3 3] 54)) (some ⟨w.heap.size + 1, 0, none⟩) 1 [[5, 6, 7]] := bld1 [5, 6, 7] (smallW (by decide)) (by decide) w
theorem b597 (w : World) : StR ((w.alloc (.cells #[.int .i32 5, .int .i32 9, .int .i32 7] 21)).alloc (.cells #[.slice (some ⟨w.heap.size, 0, none⟩) 3 3] 54)) (some ⟨w.heap.size + 1, 0, none⟩) 1 [[5, 9, 7]] := bld1 [5, 9, 7] (smallW (by decide)) (by decide) w
theorem b00 (w : World) : StR (((w.alloc (.cells #[.int .i32 0] 21)).alloc (.cells #[.int .i32 0, .int .i32 0, .int .i32 0] 21)).alloc (.cells #[.slice (some ⟨w.heap.size, 0, none⟩) 1 1, .slice (some ⟨w.heap.size + 1, 0, none⟩) 3 3] 54)) (some ⟨w.heap.size + 1 + 1, 0, none⟩) 2 [[0], [0, 0, 0]] := bld2 [0] [0, 0, 0] (smallW (by decide)) (smallW (by decide)) (by decide) (by decide) w
theorem bm1 (w : World) : StR (((w.alloc (.cells #[.int .i32 (-9)] 21)).alloc (.cells #[.int .i32 0, .int .i32 1, .int .i32 0] 21)).alloc (.cells #[.slice (some ⟨w.heap.size, 0, none⟩) 1 1, .slice (some ⟨w.heap.size + 1, 0, none⟩) 3 3] 54)) (some ⟨w.heap.size + 1 + 1, 0, none⟩) 2 [[-9], [0, 1, 0]] := bld2 [-9] [0, 1, 0] (smallW (by decide)) (smallW (by decide)) (by decide) (by decide) w
theorem bm2 (w : World) : StR (((w.alloc (.cells #[.int .i32 (-9)] 21)).alloc (.cells #[.int .i32 0, .int .i32 2, .int .i32 0] 21)).alloc (.cells #[.slice (some ⟨w.heap.size, 0, none⟩) 1 1, .slice (some ⟨w.heap.size + 1, 0, none⟩) 3 3] 54)) (some ⟨w.heap.size + 1 + 1, 0, none⟩) 2 [[-9], [0, 2, 0]] := bld2 [-9] [0, 2, 0] (smallW (by decide)) (smallW (by decide)) (by decide) (by decide) w
theorem place_at (g : Nat) (W : World) (T : StR W (some ⟨g, 0, none⟩) 1 [[5, 6, 7]]) (hT : T17 W) : Calls Tryd.prog 21 #[.slice (some ⟨g, 0, none⟩) 1 1, .agg #[.int .i64 0, .slice (some ⟨W.heap.size, 0, none⟩) 1 1]] (W.alloc (.cells #[.int .u8 1, .int .u8 0, .int .u8 0, .int .i32 2, .int .i64 0, .slice none 0 0] 45)) fun en w' => en = .returned (.tuple #[.int .i64 0, .int .i64 2, .bool true]) ∧ Below W.heap.size W w' := by
  refine (place_is g W.heap.size _ (T.keep (bal (b0 _) _)) (KrR.one (y := kN 2) (B := none) (d := 0) (boxS_new W 45 (kxC (kN 2) none 0 0)) (ok_kN ⟨by decide, by decide⟩) (KrR.nil _)) (hT.below (bal (b0 _) _))).mono ?_
  rintro e w' ⟨h, b⟩
  exact ⟨h, blw (bal (b0 W) _) b⟩
end Go.Proofs.YtblckajejohlbaaDoor
