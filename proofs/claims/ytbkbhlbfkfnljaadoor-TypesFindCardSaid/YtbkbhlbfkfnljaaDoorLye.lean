/- TypesBack: its walk. -/
import Derived.Test.YtbkbhlbfkfnljaaDoorLyd
set_option linter.unusedVariables false
set_option linter.unusedSimpArgs false
namespace Go.Proofs.YtbkbhlbfkfnljaaDoor
open Go Go.RowKit L8 L9

def B9 (w X : World) (A : Option Addr) (c : Nat) (l : List Tk) : Prop := S9 w X ∧ RR X A c l
theorem B9.step {w X Y : World} {A : Option Addr} {c : Nat} {l : List Tk} (h : B9 w X A c l) (b : Below X.heap.size X Y) : B9 w Y A c l := ⟨h.1.step b, h.2.keep b⟩
theorem B9.tab {w X : World} {A : Option Addr} {c : Nat} {l : List Tk} (h : B9 w X A c l) : T9 X := h.1.2
theorem B9.rr {w X : World} {A : Option Addr} {c : Nat} {l : List Tk} (h : B9 w X A c l) : RR X A c l := h.2
theorem B9.bel {w X : World} {A : Option Addr} {c : Nat} {l : List Tk} (h : B9 w X A c l) : Below w.heap.size w X := h.1.1
theorem neq_ty (t u : Ty) (w : World) : (binOp .neq 24 (tyV t) (tyV u)).run Tryd.prog w = .ok (.bool (!decide (t = u))) w := by
  have h := eq_ty t u w
  unfold tyV at h ⊢
  rw [run_neq_struct, h]; rfl
theorem okt_may {t : Ty} (h : mayT t = true) : OKt t := by
  obtain ⟨hd, hw⟩ := may_ways h
  have key : t.k < 256 ∧ t.i < 256 ∧ t.p.length ≤ 32 := by
    rcases hw with ⟨g, e⟩ | ⟨g, e⟩ | ⟨g, e⟩ | rfl
    · have := (prim_iff t.k).1 g
      rw [e]
      exact ⟨by show t.k < 256; omega, by show (0 : Nat) < 256; decide, by simp⟩
    · have := (prim_iff t.i).1 g
      rw [e]
      exact ⟨by show (4 : Nat) < 256; decide, by show t.i < 256; omega, by simp⟩
    · have h2 := g
      unfold isName at h2
      simp only [Bool.and_eq_true, decide_eq_true_eq] at h2
      rw [e]
      exact ⟨by show (4 : Nat) < 256; decide, by show (0 : Nat) < 256; decide, by show t.p.length ≤ 32; omega⟩
    · decide
  exact ⟨key.1, key.2.1, by unfold maxLen; omega, by omega, by omega⟩
theorem frontR_back {t : Ty} (h : mayT t = true) (l : List Tk) : frontR (tokT t ++ l) = (t, (tokT t).length, 0) := by
  unfold frontR
  rw [front_back h]
set_option maxRecDepth 100000 in
set_option maxHeartbeats 16000000 in
theorem walkTypesBack (a0 : Ty) (okt0 : OKt a0) (a1 : Option Addr) (len1 cap1 : Nat) (w : World) (w1 : IsTk w a1 len1 cap1) (ht : T9 w) :
    Calls Tryd.prog 8 #[tyV a0, .slice a1 len1 cap1] w fun e w' => e = .returned (.bool true) ∧ Below w.heap.size w w' := by
  obtain ⟨l, hm, R⟩ := w1
  generalize len1 = m at *
  have HM := Lib.hid hm
  have hmx : m ≤ maxLen := by have := R.le; have := R.mx; omega
  unfold maxLen at hmx
  have CH := Lib.hid (fun (W : World) (h : T9 W) => head_any W h)
  have H0 : Hid (B9 w (w.alloc (.cells (tyC a0) 24)) a1 cap1 l ∧ BoxS (w.alloc (.cells (tyC a0) 24)) w.heap.size 24 (tyC a0)) := Lib.hid ⟨⟨⟨bal (b0 w) _, ht.below (bal (b0 w) _)⟩, R.keep (bal (b0 w) _)⟩, boxS_new w _ _⟩
  have hOkT := okl_tokT (t := a0)
  have hT1 := Lib.hid (fun (h : mayT a0 = true) => show tokensT a0 = (tokT a0, 0) by unfold tokensT; rw [h]; rfl)
  have hT0 := Lib.hid (fun (h : mayT a0 = false) => show tokensT a0 = ([], 2) by unfold tokensT; rw [h]; rfl)
  have HOk := Lib.hid R.ok
  have hq := fun W => neq_ty a0 a0 W
  rw [decide_eq_true rfl, Bool.not_true] at hq
  have C1 : Hid (∀ (W : World), T9 W → Calls Tryd.prog 18 #[tyV a0] W fun e w' => ∃ A c, e = .returned (.tuple #[.slice A (tokensT a0).1.length c, .int .i64 (tokensT a0).2]) ∧ RR w' A c (tokensT a0).1 ∧ Below W.heap.size W w') := Lib.hid fun W h => (PTok_any a0 okt0 W h).mono fun e w' ⟨A, c, h, o, b⟩ => ⟨A, c, h, o.rr hOkT, b⟩
  have CB := Lib.hid (fun (X : World) (A : Option Addr) (c k : Nat) (Q : RR X A c (tokT a0 ++ l)) (hk : (tokT a0 ++ l).length = k) (h : mayT a0 = true) (t9 : T9 X) => show Calls Tryd.prog 21 #[.slice A k c] X (fun e w' => e = .returned (.tuple #[tyV a0, .int .i64 ((tokT a0).length : Int), .int .i64 0]) ∧ Below X.heap.size X w') from by
    have := PFront_any Q hk t9
    rw [frontR_back h] at this
    exact this)
  have CF : Hid (∀ X, B9 w X a1 cap1 l → Calls Tryd.prog 21 #[.slice a1 m cap1] X fun e w' => e = .returned (.tuple #[tyV (frontR l).1, .int .i64 ((frontR l).2.1 : Int), .int .i64 (frontR l).2.2]) ∧ Below X.heap.size X w') := Lib.hid fun X h => PFront_any h.rr hm h.tab
  clear R hm hOkT
  generalize hr : tokensT a0 = r at *
  obtain ⟨tk, er⟩ := r
  dsimp only [tyV, tyC] at *
  generalize hnt : tk.length = nt at *
  generalize strOf a0.p = S at *
  by_cases h40 : (40 : Int) < (m : Int)
  · clear hr
    go_enter Tryd.func8, Tryd.ntmps8
    go_wp2_with (go_at_call 10; (with_reducible refine (CH.out _ H0.out.1.tab).mono ?_); rintro e v5 ⟨rfl, b⟩; have H4 := Lib.hid (H0.out.1.step b); clear b)
    go_ret
    exact ⟨rfl, H4.out.bel⟩
  · go_enter Tryd.func8, Tryd.ntmps8
    go_upto_if 25 with (go_at_call 18; (with_reducible refine (C1.out _ H0.out.1.tab).mono ?_); rintro e v1 ⟨A1, c1, rfl, q, b⟩; have H1 := Lib.hid (And.intro (H0.out.1.step b) (And.intro (H0.out.2.below b) q)); clear b q)
    go_cut [4] from 4 to 57 (fun _ wx => Hid (B9 w wx a1 cap1 l))
    case first =>
      cases hmt : mayT a0 with
      | false =>
        have h0 := hT0.out hmt
        injection h0 with h0 h1
        subst h0 h1
        clear hr hT0 hT1 CB hmt
        go_wp2
        go_meet
        exact Lib.hid H1.out.1
      | true =>
        have h0 := hT1.out hmt
        injection h0 with h0 h1
        subst h1
        have hlen := tokT_len hmt
        rw [← h0, hnt] at hlen
        have CB2 := Lib.hid (fun (X : World) (A : Option Addr) (c : Nat) (Q : RR X A c (tk ++ l)) (t9 : T9 X) => CB.out X A c (nt + m) (by rw [← h0]; exact Q) (by rw [← h0, List.length_append, hnt, HM.out]) hmt t9)
        rw [← h0, hnt] at CB2
        have n0 : (1 : Int) ≤ (nt : Int) := by omega
        have n1 : (nt : Int) ≤ 6 := by omega
        have q1 : ((nt : Int) != (nt : Int)) = false := by simp
        have HNt := Lib.hid hnt
        have HOkk := Lib.hid (H1.out.2.2.ok)
        clear hr hT0 hT1 CB hmt h0 hlen hnt
        go_wp2_with (first
          | (at_builtin; (refine app_rws rfl (.tmp 35) (.tmp 36) rfl v1.heap.size 0 0 nt c1 nt (some ⟨v1.heap.size, 0, none⟩) A1 [] tk rfl rfl (own_e9 v1) HNt.out (H1.out.2.2.keep (bal (b0 v1) _)) (by omega) (by omega) (bal (b0 v1) _).size ?_; intro A2 c2 v2 o2 g2; have H2 : Hid (Below v1.heap.size v1 v2 ∧ OwnR v2 57 v1.heap.size A2 nt c2 tk) := Lib.hid (And.intro (bgrow (bal (b0 v1) _) (own_e9 v1) (Nat.le_refl _) g2) o2); clear o2 g2))
          | (at_builtin; (refine app_rws rfl (.tmp 37) (.tmp 38) rfl v1.heap.size nt c2 m cap1 (nt + m) A2 a1 tk l rfl rfl H2.out.2 HM.out (H1.out.1.step H2.out.1).rr rfl (by omega) H2.out.1.size ?_; intro A3 c3 v3 o3 g3; have b3 := bgrow H2.out.1 H2.out.2 (Nat.le_refl _) g3; have H3 := Lib.hid (And.intro (H1.out.1.step b3) (And.intro (H1.out.2.1.below b3) (o3.rr (OKL.app HOkk.out HOk.out)))); clear o3 g3 b3))
          | (go_at_call 21; (with_reducible refine (CB2.out _ _ _ H3.out.2.2 H3.out.1.tab).mono ?_); rintro e v4 ⟨rfl, b⟩; have H4 := Lib.hid ((H3.out.1.step b).step (bal (b0 _) (.cells #[.int .u8 (a0.k : Int), .int .i64 a0.d, .int .u8 (a0.i : Int), .string S] 24))); obtain ⟨⟨x0, x1, x2, x3⟩, xl⟩ := box4 ((H3.out.2.1.below b).alloc (.cells #[.int .u8 (a0.k : Int), .int .i64 a0.d, .int .u8 (a0.i : Int), .string S] 24)); clear b))
        go_meet
        exact H4
    case rest =>
      have H := Lib.hid hcut.out
      clear hcut hT0 hT1 CB C1 H1 H0 hq hr
      cases hf : front l with
      | none =>
        have hfr : frontR l = (t0, 0, 90) := by unfold frontR; rw [hf]
        rw [hfr] at CF
        clear hfr hf
        dsimp only [t0] at CF
        go_wp2_with (first
          | (go_at_call 21; (with_reducible refine (CF.out _ H.out).mono ?_); rintro e v2 ⟨rfl, b⟩; have H2 := Lib.hid ((H.out.step b).step (bal (b0 _) (.cells #[.int .u8 0, .int .i64 0, .int .u8 0, .string (strOf [])] 24))); clear b)
          | (go_at_call 10; (with_reducible refine (CH.out _ H2.out.tab).mono ?_); rintro e v5 ⟨rfl, b⟩; have H4 := Lib.hid (H2.out.step b); clear b))
        go_ret
        exact ⟨rfl, H4.out.bel⟩
      | some u =>
        have hfr : frontR l = (u, (tokT u).length, 0) := by unfold frontR; rw [hf]
        obtain ⟨hu, hp⟩ := front_some hf
        rw [hfr] at CF
        have htk : tokensT u = (tokT u, 0) := by unfold tokensT; rw [hu]; rfl
        have hlen := tokT_len hu
        have hps := (pre_step (tokT u) l).1 hp
        have hoku := okt_may hu
        have hokl : OKL (tokT u) := fun x hx => may_okx9 (tok_may hu x hx).1 (tok_may hu x hx).2
        have HZ := Lib.hid (fun (j : Nat) (h : j < (tokT u).length) => tok_a0 u ((tokT u).getD j r0) (getD_mem h))
        have HI := Lib.hid hps.2
        have CT : Hid (∀ (W : World), T9 W → Calls Tryd.prog 18 #[tyV u] W fun e w' => ∃ A c, e = .returned (.tuple #[.slice A (tokT u).length c, .int .i64 0]) ∧ RR w' A c (tokT u) ∧ Below W.heap.size W w') := Lib.hid fun W h => by
          have := PTok_any u hoku W h
          unfold GivesTk at this
          rw [htk] at this
          exact this.mono fun e w' ⟨A, c, h, o, b⟩ => ⟨A, c, h, o.rr hokl, b⟩
        have CMy : Hid (∀ (W : World), T9 W → Calls Tryd.prog 11 #[tyV u] W fun e w' => e = .returned (.bool true) ∧ Below W.heap.size W w') := Lib.hid fun W h => by
          have := PMay_any u hoku W h
          rwa [hu] at this
        have hle := hps.1
        rw [HM.out] at hle
        clear hfr hf hp hps hoku hokl htk hu
        dsimp only [tyV] at *
        generalize strOf u.p = S2 at *
        generalize tokT u = tu at *
        generalize hn : tu.length = n at *
        have HNu := Lib.hid hn
        clear hn
        have n0 : (1 : Int) ≤ (n : Int) := by omega
        have n1 : (n : Int) ≤ 6 := by omega
        have n2 : (n : Int) ≤ (m : Int) := by omega
        have q1 : ((n : Int) != (n : Int)) = false := by simp
        clear hlen hle
        go_wp2_with (first
          | (go_at_call 21; (with_reducible refine (CF.out _ H.out).mono ?_); rintro e v2 ⟨rfl, b⟩; have H2 := Lib.hid ((H.out.step b).step (bal (b0 _) (.cells #[.int .u8 (u.k : Int), .int .i64 u.d, .int .u8 (u.i : Int), .string S2] 24))); have X2 := Lib.hid (boxS_new v2 24 #[.int .u8 (u.k : Int), .int .i64 u.d, .int .u8 (u.i : Int), .string S2]); clear b)
          | (go_at_call 18; (with_reducible refine (CT.out _ H2.out.tab).mono ?_); rintro e v3 ⟨A5, c5, rfl, q, b⟩; have H3 := Lib.hid (And.intro (H2.out.step b) q); obtain ⟨⟨x0, x1, x2, x3⟩, xl⟩ := box4 (X2.out.below b); clear b q)
          | (go_at_call 11; (with_reducible refine (CMy.out _ H3.out.1.tab).mono ?_); rintro e v4 ⟨rfl, b⟩; have H4 := Lib.hid (And.intro (H3.out.1.step b) (H3.out.2.keep b)); clear b))
        clear CF CT CMy H2 X2 H3 H
        go_loopw [13] (fun v wr => ∃ k : Nat, k ≤ n ∧ v = .int .i64 k ∧ Hid (B9 w wr a1 cap1 l ∧ RR wr A5 c5 tu)) (fun v _ => n - (intOf v).toNat)
        case atStart => exact ⟨0, Nat.zero_le _, rfl, H4⟩
        case round =>
          obtain ⟨k, hk, rfl, H⟩ := hrel
          have hk0 : (0 : Int) ≤ (k : Int) := by omega
          by_cases hlt : (k : Int) < (n : Int)
          · obtain ⟨ad, e9, d0, d1, d2, d3⟩ := H.out.1.rr.rd k (by have := HM.out; omega)
            have HK := Lib.hid (fun (X : World) (b : Below wr.heap.size wr X) => (H.out.2.keep b).rd k (by have := HNu.out; omega))
            have hkm : (k : Int) < (m : Int) := by omega
            have hz := isT_at0 (l.getD k r0) (tu.getD k r0) (HZ.out k (by omega))
            have hi := HI.out k (by have := HNu.out; omega)
            have hn := fun W => neq_tk ⟨(l.getD k r0).k, 0, (l.getD k r0).tx, (l.getD k r0).n⟩ (tu.getD k r0) W
            have hg := fun (x y : Operand) W => run_eqGuard_agg (P := Tryd.prog) W .neq 57 x y #[.int .u8 ((l.getD k r0).k : Int), .int .i64 0, .string (strOf (l.getD k r0).tx), .int .i32 (l.getD k r0).n] #[.int .u8 ((tu.getD k r0).k : Int), .int .i64 (tu.getD k r0).a, .string (strOf (tu.getD k r0).tx), .int .i32 (tu.getD k r0).n] guard_tk
            rw [rwV_eq9, rwV_eq9, hz, hi] at hn
            have HB := Lib.hid (fun (X : World) (b : Below wr.heap.size wr X) => And.intro (H.out.1.step b) (H.out.2.keep b))
            clear hz hi H
            subst e9
            generalize l.getD k r0 = a at *
            generalize tu.getD k r0 = b at *
            obtain ⟨ak, aa, at_, an⟩ := a
            obtain ⟨bk, ba, bt, bn⟩ := b
            dsimp only at *
            go_wp2
            have bW := Lib.hid (bal (b0 wr) (.cells #[.int .u8 (ak : Int), .int .i64 0, .string (strOf at_), .int .i32 an] 57))
            obtain ⟨⟨x0, x1, x2, x3⟩, xl⟩ := box4 (boxS_new wr 57 #[.int .u8 (ak : Int), .int .i64 0, .string (strOf at_), .int .i32 an])
            obtain ⟨ad2, e1, f0, f1, f2, f3⟩ := HK.out _ bW.out
            subst e1
            generalize wr.alloc (.cells #[.int .u8 (ak : Int), .int .i64 0, .string (strOf at_), .int .i32 an] 57) = V at *
            clear d0 d1 d2 d3 HK
            generalize Value.int .u8 (ak : Int) = V0 at *
            generalize Value.string (strOf at_) = V2 at *
            generalize Value.int .i32 an = V3 at *
            generalize Value.int .u8 (bk : Int) = U0 at *
            generalize Value.int .i64 ba = U1 at *
            generalize Value.string (strOf bt) = U2 at *
            generalize Value.int .i32 bn = U3 at *
            go_quiet (fail)
            have HE := Lib.hid (HB.out _ (bdrew bW.out nq))
            clear HB bW x0 x1 x2 x3 f0 f1 f2 f3
            generalize V.drewN nq = W at *
            go_wp2
            go_roundw
            case rel => exact ⟨k + 1, by omega, by go_num, HE⟩
            case measure => simp [intOf]; omega
          · obtain rfl : k = n := by omega
            go_wp2_with (go_at_call 10; (with_reducible refine (CH.out _ H.out.1.tab).mono ?_); rintro e v5 ⟨rfl, b⟩; have H6 := Lib.hid (H.out.1.step b); clear b)
            go_ret
            exact ⟨rfl, H6.out.bel⟩
end Go.Proofs.YtbkbhlbfkfnljaaDoor
