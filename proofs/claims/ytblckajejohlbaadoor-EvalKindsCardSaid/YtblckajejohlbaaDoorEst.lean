/- The law EvalStores. -/
import Derived.Test.YtblckajejohlbaaDoorM10
set_option linter.unusedVariables false
set_option linter.unusedSimpArgs false
set_option linter.unusedVariables false
set_option linter.unusedSimpArgs false
namespace Go.Proofs.YtblckajejohlbaaDoor
open Go Go.RowKit L8 L22 L17
open L14 (inW)

/-- On the way through the law. -/
structure LwT (w X : World) (vs : List Vr) (A : Option Addr) (c : Nat) (s : St) (S : Option Addr) (sc : Nat) (t : St) (T : Option Addr) (tc : Nat) : Prop where
  b : Below w.heap.size w X
  h : T17 X
  v : VaR X A c vs
  s : StR X S sc s
  t : StR X T tc t
theorem LwT.step {w X Y : World} {vs : List Vr} {A : Option Addr} {c : Nat} {s : St} {S : Option Addr} {sc : Nat} {t : St} {T : Option Addr} {tc : Nat} (h : LwT w X vs A c s S sc t T tc) (b : Below X.heap.size X Y) : LwT w Y vs A c s S sc t T tc := ⟨blw h.b b, h.h.below b, h.v.keep b, h.s.keep b, h.t.keep b⟩
/-- With the kernel of the call's own. -/
structure LwK (w X : World) (vs : List Vr) (A : Option Addr) (n c : Nat) (s : St) (S : Option Addr) (sc : Nat) (t : St) (T : Option Addr) (tc : Nat) : Prop where
  l : LwT w X vs A c s S sc t T tc
  k : KB w X A n c
theorem LwK.step {w X Y : World} {vs : List Vr} {A : Option Addr} {n c : Nat} {s : St} {S : Option Addr} {sc : Nat} {t : St} {T : Option Addr} {tc : Nat} (h : LwK w X vs A n c s S sc t T tc) (b : Below X.heap.size X Y) : LwK w Y vs A n c s S sc t T tc := ⟨h.1.step b, h.2.step b⟩
theorem KB.cc {w X : World} {A : Option Addr} {n c : Nat} (h : KB w X A n c) : X.cell? ⟨w.heap.size, 0, none⟩ = some (.slice A n c) ∧ X.cell? ⟨w.heap.size, 1, none⟩ = some (.slice none 0 0) ∧ X.cell? ⟨w.heap.size, 2, none⟩ = some (.int .u8 0) ∧ X.cell? ⟨w.heap.size, 3, none⟩ = some (.int .i64 0) ∧ X.cell? ⟨w.heap.size, 4, none⟩ = some (.int .i64 0) ∧ X.cell? ⟨w.heap.size, 5, none⟩ = some (.int .u8 0) ∧ X.cell? ⟨w.heap.size, 6, none⟩ = some (.slice none 0 0) ∧ X.cell? ⟨w.heap.size, 7, none⟩ = some (.slice none 0 0) ∧ X.cell? ⟨w.heap.size, 8, none⟩ = some (.slice none 0 0) ∧ X.cell? ⟨w.heap.size, 9, none⟩ = some (.slice none 0 0) ∧ X.cell? ⟨w.heap.size, 10, none⟩ = some (.slice none 0 0) :=
  ⟨(h.2.cell 0).trans rfl, (h.2.cell 1).trans rfl, (h.2.cell 2).trans rfl, (h.2.cell 3).trans rfl, (h.2.cell 4).trans rfl, (h.2.cell 5).trans rfl, (h.2.cell 6).trans rfl, (h.2.cell 7).trans rfl, (h.2.cell 8).trans rfl, (h.2.cell 9).trans rfl, (h.2.cell 10).trans rfl⟩
/-- With the two stores that the calls gave. -/
structure LwQ (w X : World) (vs : List Vr) (A : Option Addr) (n c : Nat) (s : St) (S : Option Addr) (sc : Nat) (t : St) (T : Option Addr) (tc : Nat) (st : St) (P : Option Addr) (a : Nat) (Q : Option Addr) (b : Nat) : Prop where
  x : LwK w X vs A n c s S sc t T tc
  p : StR X P a st
  q : StR X Q b st
theorem LwQ.step {w X Y : World} {vs : List Vr} {A : Option Addr} {n c : Nat} {s : St} {S : Option Addr} {sc : Nat} {t : St} {T : Option Addr} {tc : Nat} {st : St} {P : Option Addr} {a : Nat} {Q : Option Addr} {b : Nat} (h : LwQ w X vs A n c s S sc t T tc st P a Q b) (k : Below X.heap.size X Y) : LwQ w Y vs A n c s S sc t T tc st P a Q b := ⟨h.x.step k, h.p.keep k, h.q.keep k⟩
theorem PStore_any (vs : List Vr) (A : Option Addr) (n c : Nat) (w : World) (R : VaR w A c vs) (hn : vs.length = n) : Calls Tryd.prog 13 #[kzV A n c] w (Mks w (if sndL vs = true then stoV vs else [])) := by
  by_cases h : sndL vs = true
  · rw [if_pos h]; exact PStore_yes vs A n c w R hn h
  · rw [if_neg h]; exact PStore_no vs A n c w R hn (by simpa using h)
set_option maxRecDepth 100000 in
set_option maxHeartbeats 16000000 in
theorem walkEvalStores (vs : List Vr) (A : Option Addr) (n c : Nat) (hn : vs.length = n) (s : St) (S : Option Addr) (sn sc : Nat) (hs : s.length = sn) (t : St) (T : Option Addr) (tn tc : Nat) (ht : t.length = tn) (w : World) (RV : VaR w A c vs) (RS : StR w S sc s) (hM : StM s) (RT : StR w T tc t) (hN : StM t) (hT : T17 w) : Calls Tryd.prog 3 #[.slice A n c, .slice S sn sc, .slice T tn tc] w fun en w' => en = .returned (.bool true) ∧ Below w.heap.size w w' := by
  have H0 := Lib.hid (show LwT w w vs A c s S sc t T tc from ⟨b0 w, hT, RV, RS, RT⟩)
  have G1 := Lib.hid fun X (h : Hid (LwT w X vs A c s S sc t T tc)) => great_any s S sn sc X h.out.s hs hM.b (by rw [← hs]; exact hM.n)
  have G2 := Lib.hid fun X (h : Hid (LwT w X vs A c s S sc t T tc)) => great_any t T tn tc X h.out.t ht hN.b (by rw [← ht]; exact hN.n)
  have C1 := Lib.hid fun X (h : Hid (LwT w X vs A c s S sc t T tc)) => RStore_any vs A n c X h.out.v hn
  have C3 := Lib.hid fun X (h : Hid (LwT w X vs A c s S sc t T tc)) => PMay_any vs s A S n sn c sc X h.out.v h.out.s hn hs
  have C4 := Lib.hid fun X (h : Hid (LwT w X vs A c s S sc t T tc)) => RMay_any vs s A S n sn c sc X h.out.v h.out.s hn hs
  have C5 := Lib.hid fun X (h : Hid (LwT w X vs A c s S sc t T tc)) => PSame_any s t S T sn tn sc tc X h.out.s h.out.t hs ht
  have C6 := Lib.hid fun X (h : Hid (LwT w X vs A c s S sc t T tc)) => RSame_any s t S T sn tn sc tc X h.out.s h.out.t hs ht
  generalize decide (600 < grS s) = g1 at *
  generalize decide (600 < grS t) = g2 at *
  have hv := RV.sz hn
  clear RV RS hM RT hN hT hs ht
  by_cases h3 : 300 < n
  · have h3' : (300 : Int) < (n : Int) := by omega
    go_enter Tryd.func3, Tryd.ntmps3
    go_wp2_with (go_at_call 12; (with_reducible refine (awake_any _ H0.out.h).mono ?_); rintro en w1 ⟨rfl, b⟩; have H1 := Lib.hid (H0.out.step b); clear b)
    go_ret
    exact ⟨rfl, H1.out.b⟩
  have h3' : ¬(300 : Int) < (n : Int) := by omega
  go_enter Tryd.func3, Tryd.ntmps3
  cases g1 with
  | true =>
    go_wp2_with (first
      | (go_at_call 11; (with_reducible refine (G1.out _ H0).mono ?_); rintro en w1 ⟨rfl, rfl⟩)
      | (go_at_call 12; (with_reducible refine (awake_any _ H0.out.h).mono ?_); rintro en w1 ⟨rfl, b⟩; have H1 := Lib.hid (H0.out.step b); clear b))
    go_ret
    exact ⟨rfl, H1.out.b⟩
  | false =>
  cases g2 with
  | true =>
    go_wp2_with (first
      | (go_at_call 11; (with_reducible refine (G1.out _ H0).mono ?_); rintro en w1 ⟨rfl, rfl⟩)
      | (go_at_call 11; (with_reducible refine (G2.out _ H0).mono ?_); rintro en w1 ⟨rfl, rfl⟩)
      | (go_at_call 12; (with_reducible refine (awake_any _ H0.out.h).mono ?_); rintro en w1 ⟨rfl, b⟩; have H1 := Lib.hid (H0.out.step b); clear b))
    go_ret
    exact ⟨rfl, H1.out.b⟩
  | false =>
  go_upto_region 4 with (first
      | (go_at_call 11; (with_reducible refine (G1.out _ H0).mono ?_); rintro en w1 ⟨rfl, rfl⟩)
      | (go_at_call 11; (with_reducible refine (G2.out _ H0).mono ?_); rintro en w1 ⟨rfl, rfl⟩))
  have K1 : Hid (LwK w (w.alloc (.cells #[.slice A n c, .slice none 0 0, .int .u8 0, .int .i64 0, .int .i64 0, .int .u8 0, .slice none 0 0, .slice none 0 0, .slice none 0 0, .slice none 0 0, .slice none 0 0] 37)) vs A n c s S sc t T tc) := Lib.hid ⟨H0.out.step (bal (b0 w) _), KB.new w A n c⟩
  clear H0 G1 G2
  generalize w.alloc (.cells #[.slice A n c, .slice none 0 0, .int .u8 0, .int .i64 0, .int .i64 0, .int .u8 0, .slice none 0 0, .slice none 0 0, .slice none 0 0, .slice none 0 0, .slice none 0 0] 37) = X1 at *
  obtain ⟨st, hst⟩ : ∃ st, st = (if sndL vs = true then stoV vs else []) := ⟨_, rfl⟩
  rw [← hst] at C1
  have C0 := Lib.hid fun X (h : Hid (LwT w X vs A c s S sc t T tc)) => PStore_any vs A n c X h.out.v hn
  rw [← hst] at C0
  clear hst
  have D0 := Lib.hid fun X (h : Hid (LwK w X vs A n c s S sc t T tc)) => C0.out X (Lib.hid h.out.1)
  have D1 := Lib.hid fun X (h : Hid (LwK w X vs A n c s S sc t T tc)) => C1.out X (Lib.hid h.out.1)
  clear C0 C1
  go_cut [8, 9] from 8 to 28 (fun p q wx => ∃ P a Q b, p = .slice P st.length a ∧ q = .slice Q st.length b ∧ Hid (LwK w wx vs A n c s S sc t T tc ∧ StR wx P a st ∧ StR wx Q b st))
  case first =>
    have M0 : Hid (LwK w X1.drew vs A n c s S sc t T tc) := Lib.hid (K1.out.step (bdrew (b0 X1) 1))
    go_region_held3 (fun w' => w'.cell? ⟨w.heap.size, 0, none⟩ = some (.slice A n c) ∧ w'.cell? ⟨w.heap.size, 1, none⟩ = some (.slice none 0 0) ∧ w'.cell? ⟨w.heap.size, 2, none⟩ = some (.int .u8 0) ∧ w'.cell? ⟨w.heap.size, 3, none⟩ = some (.int .i64 0) ∧ w'.cell? ⟨w.heap.size, 4, none⟩ = some (.int .i64 0) ∧ w'.cell? ⟨w.heap.size, 5, none⟩ = some (.int .u8 0) ∧ w'.cell? ⟨w.heap.size, 6, none⟩ = some (.slice none 0 0) ∧ w'.cell? ⟨w.heap.size, 7, none⟩ = some (.slice none 0 0) ∧ w'.cell? ⟨w.heap.size, 8, none⟩ = some (.slice none 0 0) ∧ w'.cell? ⟨w.heap.size, 9, none⟩ = some (.slice none 0 0) ∧ w'.cell? ⟨w.heap.size, 10, none⟩ = some (.slice none 0 0))
      (first | (with_reducible exact M2.out.2.cc) | (with_reducible exact M1.out.2.cc) | (with_reducible exact M0.out.2.cc) | (with_reducible exact K1.out.2.cc))
      (first
      | (go_at_call 13; (with_reducible refine (D0.out _ M0).mono ?_); rintro e1 u1 ⟨P1, a1, us1, rfl, o1, b1⟩; have M1 := Lib.hid (M0.out.step b1); have S1 := Lib.hid o1.st; clear b1 o1)
      | (go_at_call 14; (with_reducible refine (D1.out _ M1).mono ?_); rintro e1 u2 ⟨P2, a2, us2, rfl, o2, b2⟩; have M2 := Lib.hid (M1.out.step b2); have S2 := Lib.hid o2.st; have S12 := Lib.hid (S1.out.keep b2); clear b2 o2))
    go_step
    go_step
    go_meet
    case rel => exact ⟨P1, a1, P2, a2, rfl, rfl, Lib.hid ⟨M2.out, S12.out, S2.out⟩⟩
  case rest =>
    obtain ⟨P, a, Q, b, rfl, rfl, HC⟩ := hcut
    clear K1 D0 D1
    generalize hX2 : wc = X2 at *
    clear hX2
    go_upto_region 5 with fail
    go_cut [6] from 6 to 61 (fun p wx => p = .bool true ∧ Hid (Below w.heap.size w wx))
    case first =>
      have M0 : Hid (LwQ w X2.drew vs A n c s S sc t T tc st P a Q b) := Lib.hid (LwQ.step ⟨HC.out.1, HC.out.2.1, HC.out.2.2⟩ (bdrew (b0 X2) 1))
      clear HC
      have D1 := Lib.hid fun X (h : Hid (LwQ w X vs A n c s S sc t T tc st P a Q b)) => RSame_any st st P Q st.length st.length a b X h.out.p h.out.q rfl rfl
      have D2 := Lib.hid fun X (h : Hid (LwQ w X vs A n c s S sc t T tc st P a Q b)) => C3.out X (Lib.hid h.out.x.l)
      have D3 := Lib.hid fun X (h : Hid (LwQ w X vs A n c s S sc t T tc st P a Q b)) => C4.out X (Lib.hid h.out.x.l)
      have D4 := Lib.hid fun X (h : Hid (LwQ w X vs A n c s S sc t T tc st P a Q b)) => PMay_any vs st A Q n st.length c b X h.out.x.l.v h.out.q hn rfl
      have D5 := Lib.hid fun X (h : Hid (LwQ w X vs A n c s S sc t T tc st P a Q b)) => RMay_any vs st A Q n st.length c b X h.out.x.l.v h.out.q hn rfl
      have D6 := Lib.hid fun X (h : Hid (LwQ w X vs A n c s S sc t T tc st P a Q b)) => C5.out X (Lib.hid h.out.x.l)
      have D7 := Lib.hid fun X (h : Hid (LwQ w X vs A n c s S sc t T tc st P a Q b)) => C6.out X (Lib.hid h.out.x.l)
      have D8 := Lib.hid fun X (h : Hid (LwQ w X vs A n c s S sc t T tc st P a Q b)) => awake_any X h.out.x.l.h
      rw [decide_eq_true (rfl : st = st)] at D1
      clear C3 C4 C5 C6
      generalize mayS vs s = m1 at *
      generalize mayS vs st = m2 at *
      generalize decide (s = t) = m3 at *
      have q1 : (m1 == m1) = true := by simp
      have q2 : (m2 == m2) = true := by simp
      have q3 : (m3 == m3) = true := by simp
      generalize st.length = sl at *
      go_region_held3 (fun w' => w'.cell? ⟨w.heap.size, 0, none⟩ = some (.slice A n c) ∧ w'.cell? ⟨w.heap.size, 1, none⟩ = some (.slice none 0 0) ∧ w'.cell? ⟨w.heap.size, 2, none⟩ = some (.int .u8 0) ∧ w'.cell? ⟨w.heap.size, 3, none⟩ = some (.int .i64 0) ∧ w'.cell? ⟨w.heap.size, 4, none⟩ = some (.int .i64 0) ∧ w'.cell? ⟨w.heap.size, 5, none⟩ = some (.int .u8 0) ∧ w'.cell? ⟨w.heap.size, 6, none⟩ = some (.slice none 0 0) ∧ w'.cell? ⟨w.heap.size, 7, none⟩ = some (.slice none 0 0) ∧ w'.cell? ⟨w.heap.size, 8, none⟩ = some (.slice none 0 0) ∧ w'.cell? ⟨w.heap.size, 9, none⟩ = some (.slice none 0 0) ∧ w'.cell? ⟨w.heap.size, 10, none⟩ = some (.slice none 0 0))
        (first | (with_reducible exact M8.out.x.k.cc) | (with_reducible exact M7.out.x.k.cc) | (with_reducible exact M6.out.x.k.cc) | (with_reducible exact M5.out.x.k.cc) | (with_reducible exact M4.out.x.k.cc) | (with_reducible exact M3.out.x.k.cc) | (with_reducible exact M2.out.x.k.cc) | (with_reducible exact M1.out.x.k.cc) | (with_reducible exact M0.out.x.k.cc))
        (first
        | (go_at_call 15; (with_reducible refine (D1.out _ M0).mono ?_); rintro e1 u1 ⟨rfl, b1⟩; have M1 := Lib.hid (M0.out.step b1); clear b1)
        | (go_at_call 16; (with_reducible refine (D2.out _ M1).mono ?_); rintro e1 u2 ⟨rfl, b1⟩; have M2 := Lib.hid (M1.out.step b1); clear b1)
        | (go_at_call 17; (with_reducible refine (D3.out _ M2).mono ?_); rintro e1 u3 ⟨rfl, b1⟩; have M3 := Lib.hid (M2.out.step b1); clear b1)
        | (go_at_call 16; (with_reducible refine (D4.out _ M3).mono ?_); rintro e1 u4 ⟨rfl, b1⟩; have M4 := Lib.hid (M3.out.step b1); clear b1)
        | (go_at_call 17; (with_reducible refine (D5.out _ M4).mono ?_); rintro e1 u5 ⟨rfl, b1⟩; have M5 := Lib.hid (M4.out.step b1); clear b1)
        | (go_at_call 18; (with_reducible refine (D6.out _ M5).mono ?_); rintro e1 u6 ⟨rfl, b1⟩; have M6 := Lib.hid (M5.out.step b1); clear b1)
        | (go_at_call 15; (with_reducible refine (D7.out _ M6).mono ?_); rintro e1 u7 ⟨rfl, b1⟩; have M7 := Lib.hid (M6.out.step b1); clear b1)
        | (go_at_call 12; (with_reducible refine (D8.out _ M7).mono ?_); rintro e1 u8 ⟨rfl, b1⟩; have M8 := Lib.hid (M7.out.step b1); clear b1))
      go_step
      go_step
      go_meet
      case rel => exact ⟨rfl, Lib.hid M8.out.x.l.b⟩
    case rest =>
      obtain ⟨rfl, HF⟩ := hcut
      go_wp2
      go_ret
      exact ⟨rfl, HF.out⟩
end Go.Proofs.YtblckajejohlbaaDoor
