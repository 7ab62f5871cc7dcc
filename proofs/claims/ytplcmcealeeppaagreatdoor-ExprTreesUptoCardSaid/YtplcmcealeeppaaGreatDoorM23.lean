/- ExprBack: its walk. -/
import Derived.Lib.LaidTab
import Derived.Stop.LaidErr
import Derived.LaidMore
import Derived.Deep.Slices
import Derived.ChangeSame
import Derived.Test.YtplcmcealeeppaaGreatDoorM22
import Derived.Test.YtplcmcealeeppaaGreatDoorM06
import Derived.Test.YtplcmcealeeppaaGreatDoorRows
set_option linter.unusedVariables false
set_option linter.unusedSimpArgs false
set_option linter.unusedVariables false
set_option linter.unusedSimpArgs false
namespace Go.Proofs.YtplcmcealeeppaaGreatDoor
open Go Go.RowKit L8 L10

/-- The law's tree, the tokens behind, the tree's tokens. -/
structure QS (w X : World) (e : Ex) (A : Option Addr) (n c : Nat) (A' : Option Addr) (c' : Nat) (r : List Tk) (B : Option Addr) (d : Nat) (l : List Tk) : Prop where
  ts : TS w X e A n c
  r1 : RR X A' c' r
  r2 : RR X B d l
theorem QS.step {w X Y : World} {e : Ex} {A A' B : Option Addr} {n c c' d : Nat} {r l : List Tk} (h : QS w X e A n c A' c' r B d l) (b : Below X.heap.size X Y) : QS w Y e A n c A' c' r B d l := ⟨h.ts.step b, h.r1.keep b, h.r2.keep b⟩
theorem own_nil (X : World) : OwnR (X.alloc (.cells #[] 47)) 47 X.heap.size (some ⟨X.heap.size, 0, none⟩) 0 0 [] := ⟨rfl, .inr ⟨X.heap.size, 0, #[], rfl, Nat.le_refl _, boxS_new X _ _, Nat.le_refl _, by simp [maxLen], rfl, rfl⟩⟩
theorem okx_lp : OKx lp ∧ OKx rp := ⟨okx_k (by show (1 : Nat) ≤ maxLen; unfold maxLen; decide) (by decide), okx_k (by show (1 : Nat) ≤ maxLen; unfold maxLen; decide) (by decide)⟩
theorem back_cut (m cap : Nat) (A : Option Addr) (l : List Tk) (hm : l.length = m) (w : World) (R : RR w A cap l) : ∃ K, K ≤ 20 ∧ (l.take 20).length = K ∧ RR w A cap (l.take 20) ∧ K ≤ cap ∧ ((20 : Int) < (m : Int) → K = 20) ∧ (¬ (20 : Int) < (m : Int) → K = m) := by
  refine ⟨(l.take 20).length, by rw [List.length_take]; omega, rfl, R.take 20, ?_, fun h => by rw [List.length_take]; omega, fun h => by rw [List.length_take]; omega⟩
  have := R.le
  rw [List.length_take]
  omega
theorem noc_at {l : List Tk} {K : Nat} (hl : l.length = K) (h : K = 0 ∨ (dyB (l.getD 0 r0) = false ∧ (l.getD 0 r0).tx ≠ [91])) : noc l := by
  cases l with
  | nil => exact noc_nil
  | cons x r =>
    rcases h with h | ⟨h1, h2⟩
    · simp at hl; omega
    · exact noc_of h1 h2
set_option maxRecDepth 100000 in
set_option maxHeartbeats 16000000 in
theorem walkExprBack (a0 : Ex) (A : Option Addr) (n c : Nat) (hn : a0.l.length = n) (ok : OKe a0) (a1 : Option Addr) (len1 cap1 : Nat) (w : World) (R : TrR w A c a0.l) (w1 : IsTx w a1 len1 cap1) (h10 : T10 w) (hT : W1.Tab w) :
    Calls Tryz.prog 5 #[exV a0 A n c, .slice a1 len1 cap1] w fun e w' => e = .returned (.bool true) ∧ Below w.heap.size w w' := by
  obtain ⟨l0, hm, R0⟩ := w1
  generalize len1 = m at *
  have hmx : m ≤ maxLen := by have := R0.le; have := R0.mx; omega
  unfold maxLen at hmx
  obtain ⟨K, hK20, hKL, RK, hKc, hK1, hK2⟩ := back_cut m cap1 a1 l0 hm w R0
  have HMin : Hid (∀ W, (Instr.slice 39 (.slice a1 m cap1) none (some (.int .i64 (min (m : Int) 20))) none).run Tryz.prog W = .ok (.slice a1 K cap1) W) := Lib.hid fun W => by
    have hk : min (m : Int) 20 = (K : Int) := by
      by_cases h : (20 : Int) < (m : Int)
      · have := hK1 h; omega
      · have := hK2 h; omega
    rw [hk]
    exact cut_tk a1 m cap1 K hKc W
  have CW := Lib.hid (fun (X : World) (h : S10 w X) => works_at h)
  have HV : Hid (TS w (w.alloc (.cells (exC a0 A n c) 27)) a0 A n c ∧ RR (w.alloc (.cells (exC a0 A n c) 27)) a1 cap1 (l0.take 20)) := Lib.hid ⟨TS.new hT h10 R, RK.keep (bal (b0 w) _)⟩
  have C1 := Lib.hid (fun (X : World) (h : TS w X a0 A n c) => h.toks hn ok)
  have CM := Lib.hid (fun (X : World) (h : TS w X a0 A n c) => pc.may a0 A n c X h.tr hn ok h.s.t10)
  have HC := Lib.hid (fun (X : World) (h : TS w X a0 A n c) => h.cells)
  have CS : Hid (∀ (X : World) (A2 : Option Addr) (c2 : Nat), TS w X a0 A n c → TrR X A2 c2 a0.l → Calls Tryz.prog 20 #[exV a0 A2 n c2, exV a0 A n c] X fun en w' => en = .returned (.bool true) ∧ Below X.heap.size X w') := Lib.hid fun X A2 c2 h t => by
    have := RSameX_any a0 a0 A2 A n n c2 c X t hn h.tr hn
    rwa [decide_eq_true rfl] at this
  have CF : Hid (∀ (X : World) (B : Option Addr) (d m q : Nat) (l : List Tk), S10 w X → RR X B d l → l.length = m → m ≤ 4000000 → frontX l = (a0, q, 0) → Calls Tryz.prog 26 #[.slice B m d] X fun en w' => ∃ B d, en = .returned (.tuple #[exV a0 B n d, .int .i64 (q : Int), .int .i64 0]) ∧ TrR w' B d a0.l ∧ Below X.heap.size X w') := Lib.hid fun X B d m q l h r hm hs hf => (front_at_w h r hm hs hf hn).mono fun en w' ⟨B, d, h1, h2, _, h4⟩ => ⟨B, d, h1, h2, h4⟩
  have HNew := Lib.hid (fun (X : World) (A2 : Option Addr) (c2 : Nat) (t : TrR X A2 c2 a0.l) => BX.new (n := n) t)
  have HB := Lib.hid (fun (X : World) (A2 : Option Addr) (c2 K2 : Nat) (h : BX X a0 A2 n c2 K2) => h.cells)
  have CD := Lib.hid (fun (X : World) (t : Tk) (h : S10 w X) => dyadic_any pc t X h.t10)
  have hlen : (toksX a0).1.length ≤ 1280 := toks_len
  generalize l0.take 20 = L0 at *
  have HL0 := Lib.hid hKL
  clear hKL
  cases hmay : mayE a0 with
  | false =>
    have he : toksX a0 = ([], 2) := by unfold toksX; rw [hmay]; rfl
    rw [hmay] at CM
    rw [he] at C1
    clear R hn ok h10 hT hmay he hm R0 RK hK1 hK2 hlen CF HNew HB CS CD
    dsimp only [exV, exC, List.length_nil] at *
    generalize strOf a0.s = S at *
    go_enter Tryz.func5, Tryz.ntmps5
    go_upto_region 1 with fail
    generalize w.alloc (.cells #[.int .u8 (a0.k : Int), .int .u8 (a0.o : Int), .int .u8 (a0.t : Int), .int .i32 a0.n, .string S, .slice A n c] 27) = V at *
    go_cut [1] from 14 to 18 (fun t wx => t = .slice a1 K cap1 ∧ wx = V)
    case first =>
      have hc := HMin.out
      go_wp2_with fail
      go_meet
      exact ⟨rfl, rfl⟩
    case rest =>
      obtain ⟨rfl, hw⟩ := hcut
      obtain rfl := hw.symm
      clear HMin
      obtain ⟨z0, z1, z2, z3, z4, z5⟩ := HC.out _ HV.out.1
      go_wp2_with (first
        | (go_at_call 22; (with_reducible refine (C1.out _ HV.out.1).mono ?_); rintro e v1 ⟨B1, d1, rfl, r, b⟩; have H1 := Lib.hid (HV.out.1.step b); clear b r; obtain ⟨y0, y1, y2, y3, y4, y5⟩ := HC.out _ H1.out)
        | (go_at_call 12; (with_reducible refine (CM.out _ H1.out).mono ?_); rintro e v2 ⟨rfl, b⟩; have H2 := Lib.hid (H1.out.s.step b); clear b)
        | (go_at_call 21; (with_reducible refine (CW.out _ H2.out).mono ?_); rintro e v4 ⟨rfl, b⟩; have H4 := Lib.hid (H2.out.step b); clear b))
      go_ret
      exact ⟨rfl, H4.out.bel⟩
  | true =>
    have he : toksX a0 = (tkE a0, 0) := by unfold toksX; rw [if_pos hmay]
    have HFB := Lib.hid (fun (r : List Tk) (hr : noc r) => front_back hmay r hr)
    have hNp := tk_pos (may_all hmay).1
    rw [hmay] at CM
    rw [he] at C1 hlen
    dsimp only at C1 hlen
    clear R hn ok h10 hT hmay he hm R0 RK hK1 hK2
    generalize hN : (tkE a0).length = N at *
    have HN := Lib.hid hN
    clear hN
    generalize tkE a0 = L at *
    have qN : ((N : Int) == 0) = false := by simp; omega
    have q1 : ((N : Int) == (N : Int)) = true := by simp
    have q2 : ((N : Int) + 2 == (N : Int) + 2) = true := by simp
    have hN0 : (0 : Int) < (N : Int) := by omega
    have hN1 : (N : Int) ≤ 1280 := by omega
    clear hNp
    dsimp only [exV, exC] at *
    generalize strOf a0.s = S at *
    go_enter Tryz.func5, Tryz.ntmps5
    go_upto_region 1 with fail
    generalize w.alloc (.cells #[.int .u8 (a0.k : Int), .int .u8 (a0.o : Int), .int .u8 (a0.t : Int), .int .i32 a0.n, .string S, .slice A n c] 27) = V at *
    go_cut [1] from 14 to 18 (fun t wx => t = .slice a1 K cap1 ∧ wx = V)
    case first =>
      have hc := HMin.out
      go_wp2_with fail
      go_meet
      exact ⟨rfl, rfl⟩
    case rest =>
      obtain ⟨rfl, hw⟩ := hcut
      obtain rfl := hw.symm
      clear HMin
      obtain ⟨z0, z1, z2, z3, z4, z5⟩ := HC.out _ HV.out.1
      go_upto_region 7 with (first
        | (go_at_call 22; (with_reducible refine (C1.out _ HV.out.1).mono ?_); rintro e v1 ⟨B1, d1, rfl, r, b⟩; have H1 := Lib.hid (And.intro (HV.out.1.step b) (And.intro (HV.out.2.keep b) r)); clear b r; obtain ⟨y0, y1, y2, y3, y4, y5⟩ := HC.out _ H1.out.1)
        | (go_at_call 12; (with_reducible refine (CM.out _ H1.out.1).mono ?_); rintro e v2 ⟨rfl, b⟩; have H2 : Hid (QS w v2 a0 A n c a1 cap1 L0 B1 d1 L) := Lib.hid ⟨H1.out.1.step b, H1.out.2.1.keep b, H1.out.2.2.keep b⟩; clear b))
      clear z0 z1 z2 z3 z4 z5 y0 y1 y2 y3 y4 y5
      go_cut [59] from 44 to 59 (fun t wx => ∃ b, t = .bool b ∧ Hid (QS w wx a0 A n c a1 cap1 L0 B1 d1 L ∧ (b = false → noc L0)))
      case first =>
        by_cases hK0 : (0 : Int) < (K : Int)
        · obtain ⟨ad, rfl, x0, x1, x2, x3⟩ := H2.out.r1.rd 0 (by have := HL0.out; omega)
          have hz : ad.add (0 * 4) = ad := by rw [Nat.zero_mul]; unfold Addr.add; simp
          rw [hz] at x0 x1 x2 x3
          clear hz
          have HNo := Lib.hid (fun (h1 : dyB (L0.getD 0 r0) = false) (h2 : (L0.getD 0 r0).tx ≠ [91]) => noc_at HL0.out (.inr ⟨h1, h2⟩))
          have CDx := Lib.hid (CD.out v2 (L0.getD 0 r0) H2.out.ts.s)
          have es : ((strOf (L0.getD 0 r0).tx).toList == [91]) = decide ((L0.getD 0 r0).tx = [91]) := by { have h := eqS (L0.getD 0 r0).tx [91]; rw [show (strOf [91]).toList = [91] from by decide +kernel] at h; exact h }
          generalize L0.getD 0 r0 = t0 at *
          obtain ⟨tk, ta, tt, tn⟩ := t0
          dsimp only [rwV] at *
          generalize hd : dyB ⟨tk, ta, tt, tn⟩ = db at *
          have HD := Lib.hid hd
          clear hd
          have HK2' : Hid (∀ X, Below v2.heap.size v2 X → X.cell? ⟨ad.block, ad.off + 2, none⟩ = some (.string (strOf tt))) := Lib.hid fun X b => (b.cell (g_lt x2)).trans x2
          cases db with
          | true =>
            generalize strOf tt = St at *
            go_wp2_with (go_at_call 25; (with_reducible refine (CDx.out).mono ?_); rintro e v3 ⟨rfl, b⟩; have H3 := Lib.hid (H2.out.step b); clear b)
            go_meet
            exact ⟨true, rfl, Lib.hid ⟨H3.out, fun h => by cases h⟩⟩
          | false =>
            by_cases htx : tt = [91]
            · rw [decide_eq_true htx] at es
              generalize strOf tt = St at *
              go_wp2_with (go_at_call 25; (with_reducible refine (CDx.out).mono ?_); rintro e v3 ⟨rfl, b⟩; have H3 := Lib.hid (H2.out.step b); have k2 := HK2'.out _ b; clear b)
              go_meet
              exact ⟨true, rfl, Lib.hid ⟨H3.out, fun h => by cases h⟩⟩
            · have HY := Lib.hid (HNo.out rfl htx)
              rw [decide_eq_false htx] at es
              clear htx HNo
              generalize strOf tt = St at *
              go_wp2_with (go_at_call 25; (with_reducible refine (CDx.out).mono ?_); rintro e v3 ⟨rfl, b⟩; have H3 := Lib.hid (H2.out.step b); have k2 := HK2'.out _ b; clear b)
              go_meet
              exact ⟨false, rfl, Lib.hid ⟨H3.out, fun _ => HY.out⟩⟩
        · have HY := Lib.hid (noc_at HL0.out (.inl (by omega)))
          go_wp2_with fail
          go_meet
          exact ⟨false, rfl, Lib.hid ⟨H2.out, fun _ => HY.out⟩⟩
      case rest =>
        obtain ⟨b, rfl, HQ⟩ := hcut
        clear H2 CD C1 CM HV
        cases b with
        | true =>
          have H0 : Hid (QS w wc a0 A n c none 0 [] B1 d1 L) := Lib.hid ⟨HQ.out.1.ts, RR.nil wc, HQ.out.1.r2⟩
          have hf := HFB.out [] noc_nil
          clear HQ HFB HL0
          have HR := Lib.hid H0.out.r1.ok
          have HLk := Lib.hid H0.out.r2.ok
          have HF1 := Lib.hid (fun (X : World) (B : Option Addr) (d : Nat) (s : S10 w X) (q : RR X B d (L ++ [])) => CF.out X B d N N (L ++ []) s q (by rw [List.append_nil, HN.out]) (by omega) hf.1)
          have HF2 : Hid (∀ (X : World) (B : Option Addr) (d : Nat), S10 w X → RR X B d ((([lp] ++ L) ++ [rp]) ++ []) → Calls Tryz.prog 26 #[.slice B (1 + N + 1) d] X fun en w' => ∃ B d, en = .returned (.tuple #[.agg #[.int .u8 (a0.k : Int), .int .u8 (a0.o : Int), .int .u8 (a0.t : Int), .int .i32 a0.n, .string S, .slice B n d], .int .i64 ((N : Int) + 2), .int .i64 0]) ∧ TrR w' B d a0.l ∧ Below X.heap.size X w') := Lib.hid fun X B d s q => by
            have := CF.out X B d (1 + N + 1) (N + 2) ((([lp] ++ L) ++ [rp]) ++ []) s q (by simp [HN.out]; omega) (by omega) hf.2
            exact this
          have HL1 : Hid (∀ (X : World) (o : Obj), OwnR ((X.alloc o).alloc (.cells #[.int .u8 5, .int .i64 0, .string ⟨#[40]⟩, .int .i32 0] 47)) 47 (X.heap.size + 1) (some ⟨X.heap.size + 1, 0, none⟩) 1 1 [lp]) := Lib.hid fun X o => by
            have := own_lit (rs := [lp]) (w := (X.alloc o).alloc (.cells #[.int .u8 5, .int .i64 0, .string ⟨#[40]⟩, .int .i32 0] 47)) (n := 1) (boxS_new (X.alloc o) _ _) (Nat.le_refl _) rfl (by decide)
            rwa [World.size_alloc] at this
          have HT := Lib.hid (fun (W : World) => tok1 rp okx_lp.2 W)
          clear hf CF
          go_wp2_with (first
            | (at_builtin; (refine app_rws rfl (.tmp 61) (.tmp 62) rfl wc.heap.size 0 0 N d1 N (some ⟨wc.heap.size, 0, none⟩) B1 [] L rfl rfl (own_nil wc) HN.out (H0.out.r2.keep (bal (b0 wc) _)) (by omega) (by omega) (bal (b0 wc) _).size ?_; intro A2 c2 v1 o2 g2; have B2 := Lib.hid (bgrow (bal (b0 wc) _) (own_nil wc) (Nat.le_refl _) g2); have O2 := Lib.hid o2; have H1 := Lib.hid (H0.out.step B2.out); clear o2 g2))
            | (at_builtin; (refine app_rws rfl (.tmp 63) (.tmp 64) rfl wc.heap.size N c2 0 0 N A2 none L [] rfl rfl O2.out (rfl) H1.out.r1 rfl (by omega) B2.out.size ?_; intro A3 c3 v2 o3 g3; have B3 := Lib.hid (bgrow B2.out O2.out (Nat.le_refl _) g3); have O3 := Lib.hid (o3.rr (OKL.app HLk.out HR.out)); have H2 := Lib.hid (H0.out.step B3.out); clear o3 g3))
            | (go_at_call 26; (with_reducible refine (HF1.out _ _ _ H2.out.ts.s O3.out).mono ?_); rintro e v3 ⟨B4, d4, rfl, t, b⟩; have H3 := Lib.hid ((H2.out.step b).step (bal (b0 v3) (.cells #[.int .u8 (a0.k : Int), .int .u8 (a0.o : Int), .int .u8 (a0.t : Int), .int .i32 a0.n, .string S, .slice B4 n d4] 27))); have X3 := Lib.hid (HNew.out v3 B4 d4 t); clear b t)
            | (at_builtin; (refine app_rws rfl (.tmp 71) (.tmp 72) rfl (v3.heap.size + 1) 1 1 N d1 (1 + N) (some ⟨v3.heap.size + 1, 0, none⟩) B1 [lp] L rfl rfl (HL1.out v3 _) HN.out (H3.out.r2.keep (bal (b0 _) (.cells #[.int .u8 5, .int .i64 0, .string ⟨#[40]⟩, .int .i32 0] 47))) rfl (by omega) (by rw [World.size_alloc, World.size_alloc]; omega) ?_; intro A5 c5 v4 o5 g5; have B5 := Lib.hid (bgrow (bal (b0 (v3.alloc (.cells #[.int .u8 (a0.k : Int), .int .u8 (a0.o : Int), .int .u8 (a0.t : Int), .int .i32 a0.n, .string S, .slice B4 n d4] 27))) (.cells #[.int .u8 5, .int .i64 0, .string ⟨#[40]⟩, .int .i32 0] 47)) (HL1.out v3 (.cells #[.int .u8 (a0.k : Int), .int .u8 (a0.o : Int), .int .u8 (a0.t : Int), .int .i32 a0.n, .string S, .slice B4 n d4] 27)) (by rw [World.size_alloc]; exact Nat.le_refl _) g5); have O5 := Lib.hid o5; clear o5 g5))
            | (at_builtin; (refine app_rws rfl (.tmp 73) (.tmp 75) rfl (v3.heap.size + 1) (1 + N) c5 1 1 (1 + N + 1) A5 (some ⟨v4.heap.size, 0, none⟩) ([lp] ++ L) [rp] rfl rfl (O5.out.keep (bal (b0 v4) (.cells #[.int .u8 5, .int .i64 0, .string ⟨#[41]⟩, .int .i32 0] 47))) rfl (HT.out v4) rfl (by omega) (by have := (bal B5.out (.cells #[.int .u8 5, .int .i64 0, .string ⟨#[41]⟩, .int .i32 0] 47)).size; rw [World.size_alloc] at this; exact this) ?_; intro A6 c6 v5 o6 g6; have B6 := Lib.hid (bgrow (bal B5.out (.cells #[.int .u8 5, .int .i64 0, .string ⟨#[41]⟩, .int .i32 0] 47)) (O5.out.keep (bal (b0 v4) (.cells #[.int .u8 5, .int .i64 0, .string ⟨#[41]⟩, .int .i32 0] 47))) (by rw [World.size_alloc]; exact Nat.le_refl _) g6); have O6 := Lib.hid o6; have H5 := Lib.hid (H3.out.step B6.out); clear o6 g6))
            | (at_builtin; (refine app_rws rfl (.tmp 78) (.tmp 79) rfl (v3.heap.size + 1) (1 + N + 1) c6 0 0 (1 + N + 1) A6 none (([lp] ++ L) ++ [rp]) [] rfl rfl O6.out (rfl) H5.out.r1 rfl (by omega) (by have := B6.out.size; rw [World.size_alloc] at this; exact this) ?_; intro A7 c7 v6 o7 g7; have B7 := Lib.hid (bgrow B6.out O6.out (by rw [World.size_alloc]; exact Nat.le_refl _) g7); have O7 := Lib.hid (o7.rr (OKL.app (OKL.app (OKL.app (OKL.one okx_lp.1) HLk.out) (OKL.one okx_lp.2)) HR.out)); have H6 := Lib.hid (H3.out.step B7.out); have X6 := Lib.hid (X3.out.step B7.out); clear o7 g7))
            | (go_at_call 26; (with_reducible refine (HF2.out _ _ _ H6.out.ts.s O7.out).mono ?_); rintro e v7 ⟨B8, d8, rfl, t, b⟩; have H7 := Lib.hid ((H6.out.step b).step (bal (b0 v7) (.cells #[.int .u8 (a0.k : Int), .int .u8 (a0.o : Int), .int .u8 (a0.t : Int), .int .i32 a0.n, .string S, .slice B8 n d8] 27))); have X7 := Lib.hid ((X6.out.step b).step (bal (b0 v7) (.cells #[.int .u8 (a0.k : Int), .int .u8 (a0.o : Int), .int .u8 (a0.t : Int), .int .i32 a0.n, .string S, .slice B8 n d8] 27))); have Y7 := Lib.hid (HNew.out v7 B8 d8 t); clear b t; obtain ⟨z0, z1, z2, z3, z4, z5⟩ := HC.out _ H7.out.ts; obtain ⟨y0, y1, y2, y3, y4, y5⟩ := HB.out _ _ _ _ X7.out)
            | (go_at_call 20; (with_reducible refine (CS.out _ _ _ H7.out.ts X7.out.t).mono ?_); rintro e v8 ⟨rfl, b⟩; have H8 := Lib.hid (H7.out.step b); have Y8 := Lib.hid (Y7.out.step b); clear b; obtain ⟨x0, x1, x2, x3, x4, x5⟩ := HC.out _ H8.out.ts; obtain ⟨u0, u1, u2, u3, u4, u5⟩ := HB.out _ _ _ _ Y8.out)
            | (go_at_call 20; (with_reducible refine (CS.out _ _ _ H8.out.ts Y8.out.t).mono ?_); rintro e v9 ⟨rfl, b⟩; have H9 := Lib.hid (H8.out.ts.s.step b); clear b)
            | (go_at_call 21; (with_reducible refine (CW.out _ H9.out).mono ?_); rintro e v10 ⟨rfl, b⟩; have H10 := Lib.hid (H9.out.step b); clear b))
          go_ret
          exact ⟨rfl, H10.out.bel⟩
        | false =>
          have H0 := Lib.hid HQ.out.1
          have hf := HFB.out L0 (HQ.out.2 rfl)
          have hK0 : (0 : Int) ≤ (K : Int) := by omega
          clear HQ HFB
          have HR := Lib.hid H0.out.r1.ok
          have HLk := Lib.hid H0.out.r2.ok
          have HF1 := Lib.hid (fun (X : World) (B : Option Addr) (d : Nat) (s : S10 w X) (q : RR X B d (L ++ L0)) => CF.out X B d (N + K) N (L ++ L0) s q (by rw [List.length_append, HN.out, HL0.out]) (by omega) hf.1)
          have HF2 : Hid (∀ (X : World) (B : Option Addr) (d : Nat), S10 w X → RR X B d ((([lp] ++ L) ++ [rp]) ++ L0) → Calls Tryz.prog 26 #[.slice B (1 + N + 1 + K) d] X fun en w' => ∃ B d, en = .returned (.tuple #[.agg #[.int .u8 (a0.k : Int), .int .u8 (a0.o : Int), .int .u8 (a0.t : Int), .int .i32 a0.n, .string S, .slice B n d], .int .i64 ((N : Int) + 2), .int .i64 0]) ∧ TrR w' B d a0.l ∧ Below X.heap.size X w') := Lib.hid fun X B d s q => by
            have := CF.out X B d (1 + N + 1 + K) (N + 2) ((([lp] ++ L) ++ [rp]) ++ L0) s q (by rw [List.length_append, List.length_append, List.length_append, HN.out, HL0.out]; rfl) (by omega) hf.2
            exact this
          have HL1 : Hid (∀ (X : World) (o : Obj), OwnR ((X.alloc o).alloc (.cells #[.int .u8 5, .int .i64 0, .string ⟨#[40]⟩, .int .i32 0] 47)) 47 (X.heap.size + 1) (some ⟨X.heap.size + 1, 0, none⟩) 1 1 [lp]) := Lib.hid fun X o => by
            have := own_lit (rs := [lp]) (w := (X.alloc o).alloc (.cells #[.int .u8 5, .int .i64 0, .string ⟨#[40]⟩, .int .i32 0] 47)) (n := 1) (boxS_new (X.alloc o) _ _) (Nat.le_refl _) rfl (by decide)
            rwa [World.size_alloc] at this
          have HT := Lib.hid (fun (W : World) => tok1 rp okx_lp.2 W)
          clear hf CF
          go_wp2_with (first
            | (at_builtin; (refine app_rws rfl (.tmp 61) (.tmp 62) rfl wc.heap.size 0 0 N d1 N (some ⟨wc.heap.size, 0, none⟩) B1 [] L rfl rfl (own_nil wc) HN.out (H0.out.r2.keep (bal (b0 wc) _)) (by omega) (by omega) (bal (b0 wc) _).size ?_; intro A2 c2 v1 o2 g2; have B2 := Lib.hid (bgrow (bal (b0 wc) _) (own_nil wc) (Nat.le_refl _) g2); have O2 := Lib.hid o2; have H1 := Lib.hid (H0.out.step B2.out); clear o2 g2))
            | (at_builtin; (refine app_rws rfl (.tmp 63) (.tmp 64) rfl wc.heap.size N c2 K cap1 (N + K) A2 a1 L L0 rfl rfl O2.out (HL0.out) H1.out.r1 rfl (by omega) B2.out.size ?_; intro A3 c3 v2 o3 g3; have B3 := Lib.hid (bgrow B2.out O2.out (Nat.le_refl _) g3); have O3 := Lib.hid (o3.rr (OKL.app HLk.out HR.out)); have H2 := Lib.hid (H0.out.step B3.out); clear o3 g3))
            | (go_at_call 26; (with_reducible refine (HF1.out _ _ _ H2.out.ts.s O3.out).mono ?_); rintro e v3 ⟨B4, d4, rfl, t, b⟩; have H3 := Lib.hid ((H2.out.step b).step (bal (b0 v3) (.cells #[.int .u8 (a0.k : Int), .int .u8 (a0.o : Int), .int .u8 (a0.t : Int), .int .i32 a0.n, .string S, .slice B4 n d4] 27))); have X3 := Lib.hid (HNew.out v3 B4 d4 t); clear b t)
            | (at_builtin; (refine app_rws rfl (.tmp 71) (.tmp 72) rfl (v3.heap.size + 1) 1 1 N d1 (1 + N) (some ⟨v3.heap.size + 1, 0, none⟩) B1 [lp] L rfl rfl (HL1.out v3 _) HN.out (H3.out.r2.keep (bal (b0 _) (.cells #[.int .u8 5, .int .i64 0, .string ⟨#[40]⟩, .int .i32 0] 47))) rfl (by omega) (by rw [World.size_alloc, World.size_alloc]; omega) ?_; intro A5 c5 v4 o5 g5; have B5 := Lib.hid (bgrow (bal (b0 (v3.alloc (.cells #[.int .u8 (a0.k : Int), .int .u8 (a0.o : Int), .int .u8 (a0.t : Int), .int .i32 a0.n, .string S, .slice B4 n d4] 27))) (.cells #[.int .u8 5, .int .i64 0, .string ⟨#[40]⟩, .int .i32 0] 47)) (HL1.out v3 (.cells #[.int .u8 (a0.k : Int), .int .u8 (a0.o : Int), .int .u8 (a0.t : Int), .int .i32 a0.n, .string S, .slice B4 n d4] 27)) (by rw [World.size_alloc]; exact Nat.le_refl _) g5); have O5 := Lib.hid o5; clear o5 g5))
            | (at_builtin; (refine app_rws rfl (.tmp 73) (.tmp 75) rfl (v3.heap.size + 1) (1 + N) c5 1 1 (1 + N + 1) A5 (some ⟨v4.heap.size, 0, none⟩) ([lp] ++ L) [rp] rfl rfl (O5.out.keep (bal (b0 v4) (.cells #[.int .u8 5, .int .i64 0, .string ⟨#[41]⟩, .int .i32 0] 47))) rfl (HT.out v4) rfl (by omega) (by have := (bal B5.out (.cells #[.int .u8 5, .int .i64 0, .string ⟨#[41]⟩, .int .i32 0] 47)).size; rw [World.size_alloc] at this; exact this) ?_; intro A6 c6 v5 o6 g6; have B6 := Lib.hid (bgrow (bal B5.out (.cells #[.int .u8 5, .int .i64 0, .string ⟨#[41]⟩, .int .i32 0] 47)) (O5.out.keep (bal (b0 v4) (.cells #[.int .u8 5, .int .i64 0, .string ⟨#[41]⟩, .int .i32 0] 47))) (by rw [World.size_alloc]; exact Nat.le_refl _) g6); have O6 := Lib.hid o6; have H5 := Lib.hid (H3.out.step B6.out); clear o6 g6))
            | (at_builtin; (refine app_rws rfl (.tmp 78) (.tmp 79) rfl (v3.heap.size + 1) (1 + N + 1) c6 K cap1 (1 + N + 1 + K) A6 a1 (([lp] ++ L) ++ [rp]) L0 rfl rfl O6.out (HL0.out) H5.out.r1 rfl (by omega) (by have := B6.out.size; rw [World.size_alloc] at this; exact this) ?_; intro A7 c7 v6 o7 g7; have B7 := Lib.hid (bgrow B6.out O6.out (by rw [World.size_alloc]; exact Nat.le_refl _) g7); have O7 := Lib.hid (o7.rr (OKL.app (OKL.app (OKL.app (OKL.one okx_lp.1) HLk.out) (OKL.one okx_lp.2)) HR.out)); have H6 := Lib.hid (H3.out.step B7.out); have X6 := Lib.hid (X3.out.step B7.out); clear o7 g7))
            | (go_at_call 26; (with_reducible refine (HF2.out _ _ _ H6.out.ts.s O7.out).mono ?_); rintro e v7 ⟨B8, d8, rfl, t, b⟩; have H7 := Lib.hid ((H6.out.step b).step (bal (b0 v7) (.cells #[.int .u8 (a0.k : Int), .int .u8 (a0.o : Int), .int .u8 (a0.t : Int), .int .i32 a0.n, .string S, .slice B8 n d8] 27))); have X7 := Lib.hid ((X6.out.step b).step (bal (b0 v7) (.cells #[.int .u8 (a0.k : Int), .int .u8 (a0.o : Int), .int .u8 (a0.t : Int), .int .i32 a0.n, .string S, .slice B8 n d8] 27))); have Y7 := Lib.hid (HNew.out v7 B8 d8 t); clear b t; obtain ⟨z0, z1, z2, z3, z4, z5⟩ := HC.out _ H7.out.ts; obtain ⟨y0, y1, y2, y3, y4, y5⟩ := HB.out _ _ _ _ X7.out)
            | (go_at_call 20; (with_reducible refine (CS.out _ _ _ H7.out.ts X7.out.t).mono ?_); rintro e v8 ⟨rfl, b⟩; have H8 := Lib.hid (H7.out.step b); have Y8 := Lib.hid (Y7.out.step b); clear b; obtain ⟨x0, x1, x2, x3, x4, x5⟩ := HC.out _ H8.out.ts; obtain ⟨u0, u1, u2, u3, u4, u5⟩ := HB.out _ _ _ _ Y8.out)
            | (go_at_call 20; (with_reducible refine (CS.out _ _ _ H8.out.ts Y8.out.t).mono ?_); rintro e v9 ⟨rfl, b⟩; have H9 := Lib.hid (H8.out.ts.s.step b); clear b)
            | (go_at_call 21; (with_reducible refine (CW.out _ H9.out).mono ?_); rintro e v10 ⟨rfl, b⟩; have H10 := Lib.hid (H9.out.step b); clear b))
          go_ret
          exact ⟨rfl, H10.out.bel⟩
end Go.Proofs.YtplcmcealeeppaaGreatDoor
/- ExprText, ExprAgain: their walks. -/
set_option linter.unusedVariables false
set_option linter.unusedSimpArgs false
namespace Go.Proofs.YtplcmcealeeppaaGreatDoor
open Go Go.RowKit L8 L10

theorem text_all {l : List Tk} (h : ∀ t ∈ l, may t = true) : text l = if (textT l).length ≤ 256 then (textT l, 0) else ([], 3) := by
  unfold text
  rw [if_pos (List.all_eq_true.2 h)]
theorem front_put {e : Ex} (hm : mayE e = true) (hr : rngE e = true) (h256 : (textT (tkE e)).length ≤ 256) : ∃ K, tokens (textT (tkE e)) = (K, 0, 0) ∧ K.length = (tkE e).length ∧ frontX K = (e, (tkE e).length, 0) := by
  have htm := tk_tm e (may_all hm).1 hr
  have hmn : ∀ t ∈ tkE e, may t = true ∧ OKn t := fun t ht => ⟨(htm t ht).1, (htm t ht).2.2⟩
  have hb2 : tokens (textT (tkE e)) = (put 0 (tkE e), 0, 0) := tokens_ok (by omega) (toks_back hmn)
  have hall : ∀ t ∈ put 0 (tkE e), may t = true := fun t ht => (tokens_okl (textT (tkE e)) t (by rw [hb2]; exact ht)).1
  refine ⟨_, hb2, put_len 0 (tkE e), ?_⟩
  rw [front_at (at_put (kern_put 0 (tkE e)) hall fun t ht => (htm t ht).1)]
  have := (front_back hm [] noc_nil).1
  rwa [List.append_nil] at this
set_option maxRecDepth 100000 in
set_option maxHeartbeats 16000000 in
theorem walkExprText (a0 : Ex) (A : Option Addr) (n c : Nat) (hn : a0.l.length = n) (ok : OKe a0) (w : World) (R : TrR w A c a0.l) (h10 : T10 w) (hT : W1.Tab w) :
    Calls Tryz.prog 6 #[exV a0 A n c] w fun e w' => e = .returned (.bool true) ∧ Below w.heap.size w w' := by
  have HV := Lib.hid (TS.new (n := n) hT h10 R)
  have C1 := Lib.hid (fun (X : World) (h : TS w X a0 A n c) => h.toks hn ok)
  have CM := Lib.hid (fun (X : World) (h : TS w X a0 A n c) => pc.may a0 A n c X h.tr hn ok h.s.t10)
  have HC := Lib.hid (fun (X : World) (h : TS w X a0 A n c) => h.cells)
  have CW := Lib.hid (fun (X : World) (h : S10 w X) => works_at h)
  have htm := toks_tm (rng_of R ok)
  have htx := text_all (fun t ht => (htm t ht).1)
  have hlen : (toksX a0).1.length ≤ 1280 := toks_len
  have hrng := rng_of R ok
  cases hm : mayE a0 with
  | false =>
    have he : toksX a0 = ([], 2) := by unfold toksX; rw [hm]; rfl
    rw [hm] at CM
    rw [he] at C1
    have CX : Hid (∀ (X : World) (B : Option Addr) (d : Nat), TS w X a0 A n c → RR X B d [] → Calls Tryz.prog 27 #[.slice B 0 d] X fun en w' => en = .returned (.tuple #[.string ⟨#[]⟩, .int .i64 0]) ∧ Below X.heap.size X w') := Lib.hid fun X B d h r => Text_at r rfl h.s.tab (by decide +kernel)
    clear R hn ok h10 hT hm he htm htx hlen hrng
    dsimp only [exV, exC, List.length_nil] at *
    generalize strOf a0.s = S at *
    go_enter Tryz.func6, Tryz.ntmps6
    go_wp2_with (first
      | (go_at_call 22; (with_reducible refine (C1.out _ HV.out).mono ?_); rintro e v1 ⟨B1, d1, rfl, r, b⟩; have H1 := Lib.hid (HV.out.step b); have R1 := Lib.hid r; clear b r)
      | (go_at_call 27; (with_reducible refine (CX.out _ _ _ H1.out R1.out).mono ?_); rintro e v2 ⟨rfl, b⟩; have H2 := Lib.hid (H1.out.step b); clear b; obtain ⟨z0, z1, z2, z3, z4, z5⟩ := HC.out _ H2.out)
      | (go_at_call 12; (with_reducible refine (CM.out _ H2.out).mono ?_); rintro e v3 ⟨rfl, b⟩; have H3 := Lib.hid (H2.out.step b); clear b)
      | (go_at_call 21; (with_reducible refine (CW.out _ H3.out.s).mono ?_); rintro e v4 ⟨rfl, b⟩; have H4 := Lib.hid (H3.out.s.step b); clear b))
    go_ret
    exact ⟨rfl, H4.out.bel⟩
  | true =>
    have he : toksX a0 = (tkE a0, 0) := by unfold toksX; rw [if_pos hm]
    rw [hm] at CM
    rw [he] at C1 htx hlen
    dsimp only at C1 htx hlen
    by_cases h256 : (textT (tkE a0)).length ≤ 256
    · rw [if_pos h256] at htx
      obtain ⟨K, hK1, hK2, hK3⟩ := front_put hm hrng h256
      have hokK : OKL K := okl_at hK1
      have CX : Hid (∀ (X : World) (B : Option Addr) (d : Nat), TS w X a0 A n c → RR X B d (tkE a0) → Calls Tryz.prog 27 #[.slice B (tkE a0).length d] X fun en w' => en = .returned (.tuple #[.string (strOf (textT (tkE a0))), .int .i64 0]) ∧ Below X.heap.size X w') := Lib.hid fun X B d h r => Text_at r rfl h.s.tab htx
      have CT : Hid (∀ (X : World), TS w X a0 A n c → Calls Tryz.prog 28 #[.string (strOf (textT (tkE a0)))] X fun en w' => ∃ B d, en = .returned (.tuple #[.slice B (tkE a0).length d, .int .i64 0, .int .i64 0]) ∧ RR w' B d K ∧ Below X.heap.size X w') := Lib.hid fun X h => by
        have := Tokens_at (by unfold maxLen; omega) X h.s.tab hK1
        rw [hK2] at this
        exact this.mono fun e w' ⟨B, d, h1, h2, h3⟩ => ⟨B, d, h1, h2.rr hokK, h3⟩
      have CF : Hid (∀ (X : World) (B : Option Addr) (d : Nat), TS w X a0 A n c → RR X B d K → Calls Tryz.prog 26 #[.slice B (tkE a0).length d] X fun en w' => ∃ A2 c2, en = .returned (.tuple #[exV a0 A2 n c2, .int .i64 ((tkE a0).length : Int), .int .i64 0]) ∧ TrR w' A2 c2 a0.l ∧ Below X.heap.size X w') := Lib.hid fun X B d h r => by
        have := pc.front K B (tkE a0).length d X r hK2 (by omega) h.s.t10
        unfold GivesFX at this
        rw [hK3] at this
        dsimp only at this
        rw [hn] at this
        exact this.mono fun e w' ⟨A2, c2, h1, h2, _, h3⟩ => ⟨A2, c2, h1, h2, h3⟩
      have CS : Hid (∀ (X : World) (A2 : Option Addr) (c2 : Nat), TS w X a0 A n c → TrR X A2 c2 a0.l → Calls Tryz.prog 20 #[exV a0 A2 n c2, exV a0 A n c] X fun en w' => en = .returned (.bool true) ∧ Below X.heap.size X w') := Lib.hid fun X A2 c2 h t => by
        have := RSameX_any a0 a0 A2 A n n c2 c X t hn h.tr hn
        rwa [decide_eq_true rfl] at this
      have q1 : (((tkE a0).length : Int) == ((tkE a0).length : Int)) = true := by simp
      clear R hn ok h10 hT hm he htm htx hrng hK1 hK2 hK3 hokK h256
      generalize (tkE a0).length = N at *
      generalize tkE a0 = L at *
      dsimp only [exV, exC] at *
      generalize strOf (textT L) = Z at *
      generalize strOf a0.s = S at *
      go_enter Tryz.func6, Tryz.ntmps6
      go_wp2_with (first
        | (go_at_call 22; (with_reducible refine (C1.out _ HV.out).mono ?_); rintro e v1 ⟨B1, d1, rfl, r, b⟩; have H1 := Lib.hid (HV.out.step b); have R1 := Lib.hid r; clear b r)
        | (go_at_call 27; (with_reducible refine (CX.out _ _ _ H1.out R1.out).mono ?_); rintro e v2 ⟨rfl, b⟩; have H2 := Lib.hid (H1.out.step b); clear b; obtain ⟨z0, z1, z2, z3, z4, z5⟩ := HC.out _ H2.out)
        | (go_at_call 12; (with_reducible refine (CM.out _ H2.out).mono ?_); rintro e v3 ⟨rfl, b⟩; have H3 := Lib.hid (H2.out.step b); clear b)
        | (go_at_call 28; (with_reducible refine (CT.out _ H3.out).mono ?_); rintro e v4 ⟨B4, d4, rfl, r, b⟩; have H4 := Lib.hid (H3.out.step b); have R4 := Lib.hid r; clear b r)
        | (go_at_call 26; (with_reducible refine (CF.out _ _ _ H4.out R4.out).mono ?_); rintro e v5 ⟨A5, c5, rfl, t, b⟩; have H5 := Lib.hid ((H4.out.step b).step (bal (b0 v5) (.cells #[.int .u8 (a0.k : Int), .int .u8 (a0.o : Int), .int .u8 (a0.t : Int), .int .i32 a0.n, .string S, .slice A5 n c5] 27))); have T5 := Lib.hid (t.keep (bal (b0 v5) (.cells #[.int .u8 (a0.k : Int), .int .u8 (a0.o : Int), .int .u8 (a0.t : Int), .int .i32 a0.n, .string S, .slice A5 n c5] 27))); clear b t; obtain ⟨y0, y1, y2, y3, y4, y5⟩ := HC.out _ H5.out)
        | (go_at_call 20; (with_reducible refine (CS.out _ _ _ H5.out T5.out).mono ?_); rintro e v6 ⟨rfl, b⟩; have H6 := Lib.hid (H5.out.s.step b); clear b)
        | (go_at_call 21; (with_reducible refine (CW.out _ H6.out).mono ?_); rintro e v7 ⟨rfl, b⟩; have H7 := Lib.hid (H6.out.step b); clear b))
      go_ret
      exact ⟨rfl, H7.out.bel⟩
    · rw [if_neg h256] at htx
      have CX : Hid (∀ (X : World) (B : Option Addr) (d : Nat), TS w X a0 A n c → RR X B d (tkE a0) → Calls Tryz.prog 27 #[.slice B (tkE a0).length d] X fun en w' => en = .returned (.tuple #[.string ⟨#[]⟩, .int .i64 3]) ∧ Below X.heap.size X w') := Lib.hid fun X B d h r => Text_at r rfl h.s.tab htx
      clear R hn ok h10 hT hm he htm htx hrng h256
      generalize (tkE a0).length = N at *
      generalize tkE a0 = L at *
      dsimp only [exV, exC] at *
      generalize strOf a0.s = S at *
      go_enter Tryz.func6, Tryz.ntmps6
      go_wp2_with (first
        | (go_at_call 22; (with_reducible refine (C1.out _ HV.out).mono ?_); rintro e v1 ⟨B1, d1, rfl, r, b⟩; have H1 := Lib.hid (HV.out.step b); have R1 := Lib.hid r; clear b r)
        | (go_at_call 27; (with_reducible refine (CX.out _ _ _ H1.out R1.out).mono ?_); rintro e v2 ⟨rfl, b⟩; have H2 := Lib.hid (H1.out.step b); clear b; obtain ⟨z0, z1, z2, z3, z4, z5⟩ := HC.out _ H2.out)
        | (go_at_call 12; (with_reducible refine (CM.out _ H2.out).mono ?_); rintro e v3 ⟨rfl, b⟩; have H3 := Lib.hid (H2.out.step b); clear b)
        | (go_at_call 21; (with_reducible refine (CW.out _ H3.out.s).mono ?_); rintro e v4 ⟨rfl, b⟩; have H4 := Lib.hid (H3.out.s.step b); clear b))
      go_ret
      exact ⟨rfl, H4.out.bel⟩
end Go.Proofs.YtplcmcealeeppaaGreatDoor
/- What the rows list; tokens that came in. -/
set_option linter.unusedVariables false
set_option linter.unusedSimpArgs false
namespace Go.Proofs.YtplcmcealeeppaaGreatDoor
open Go Go.RowKit Go.ChangeShapes Go.WideShapes Go.Deep Go.ChangeAt L8

theorem gTab : Tryz.prog.globalNamed "internal/strconv.uint64pow10" = some 5 := by kernel_rfl
theorem gTabType : (Tryz.prog.globals[5]?).map (·.type) = some 174 := by kernel_rfl
theorem cellsTab : Tryz.prog.cellsOf 174 = 20 := by kernel_rfl
theorem cellsNum : Tryz.prog.cellsOf 159 = 1 := by kernel_rfl
theorem tab_of {W : World} {rest : List (String × DataW Unit)} (h : laidMet Tryz.prog (("internal/strconv.uint64pow10", Rows.laid_internal_strconv_uint64pow10) :: rest) W) : W1.Tab W :=
  Lib.tabIs_of_head (zs := Lib.pow10Tab) (rest := rest) gTab gTabType Tryz.underlying174 Tryz.underlying159 cellsNum cellsTab h
theorem table_c {W : World} (h : laidMet Tryz.prog [("math/bits.deBruijn32tab", Rows.laid_math_bits_deBruijn32tab), ("math/bits.deBruijn64tab", Rows.laid_math_bits_deBruijn64tab), ("internal/strconv.uint64pow10", Rows.laid_internal_strconv_uint64pow10), ("unicode/utf8.acceptRanges", Rows.laid_unicode_utf8_acceptRanges), ("unicode/utf8.first", Rows.laid_unicode_utf8_first)] W) : W1.Tab W :=
  tab_of h.tail.tail
theorem list_ofT {P : Nat → Tk → Prop} (n : Nat) (h : ∀ i, i < n → ∃ x, P i x) : ∃ ls : List Tk, ls.length = n ∧ ∀ i, i < n → P i (ls.getD i r0) := by
  induction n with
  | zero => exact ⟨[], rfl, fun i hi => absurd hi (by omega)⟩
  | succ n ih =>
    obtain ⟨ls, hl, hp⟩ := ih (fun i hi => h i (by omega))
    obtain ⟨x, hx⟩ := h n (by omega)
    refine ⟨ls ++ [x], by simp [hl], fun i hi => ?_⟩
    by_cases hin : i < n
    · have e : (ls ++ [x]).getD i r0 = ls.getD i r0 := by simp [List.getElem?_append_left (show i < ls.length by omega)]
      rw [e]; exact hp i hin
    · obtain rfl : i = n := by omega
      have e : (ls ++ [x]).getD i r0 = x := by simp [← hl]
      rw [e]; exact hx
section
variable {H : Type} {enc : TypeId × Value → H} {w : World}
theorem u8_wf {a : Int} (h : (Lit.int .u8 a).wf = true) : 0 ≤ a ∧ a < 256 := by
  simp only [Lit.wf, IntKind.min, IntKind.max, IntKind.signed, IntKind.bits, Bool.and_eq_true, decide_eq_true_eq] at h
  simp at h
  omega
set_option maxRecDepth 100000 in
theorem open_tok {fuel : Nat} {cs : List Value} {x : DataW H × List MemPlace} (h : DataW.trod enc Tryz.prog w 0 (fun _ => true) true fuel 47 cs = some x) : ∃ y : Tk, cs = rwC y ∧ OKx y := by
  obtain ⟨xs, n, _, _, hl, hlen, hf⟩ := DataW.trod_struct Tryz.underlying47 h
  have kl : Tryz.prog.cellsOf 47 = 4 := by kernel_rfl
  have k1 : Tryz.prog.cellsOf 45 = 1 := by kernel_rfl
  have k3 : Tryz.prog.cellsOf 3 = 1 := by kernel_rfl
  have k9 : Tryz.prog.cellsOf 9 = 1 := by kernel_rfl
  have k4 : Tryz.prog.cellsOf 21 = 1 := by kernel_rfl
  rw [kl] at hl
  match cs, hl with
  | [c0, c1, c2, c3], _ =>
    match xs, hlen with
    | [y0, y1, y2, y3], _ =>
      have f0 := hf 0 _ rfl
      have f1 := hf 1 _ rfl
      have f2 := hf 2 _ rfl
      have f3 := hf 3 _ rfl
      simp [k1, k3, k9, k4] at f0 f1 f2 f3
      obtain ⟨a, e0, _, w0⟩ := DataW.trod_int Tryz.underlying45 f0
      obtain ⟨b, e1, _, w1⟩ := DataW.trod_int Tryz.underlying3 f1
      obtain ⟨s, e2, _, w2⟩ := DataW.trod_string Tryz.underlying9 f2
      obtain ⟨n, e3, _, w3⟩ := DataW.trod_int Tryz.underlying21 f3
      injection e0 with e0
      injection e1 with e1
      injection e2 with e2
      injection e3 with e3
      subst e0 e1 e2 e3
      have hk := u8_wf w0
      have hn := W1.isW_of_wf w3
      obtain ⟨k, rfl⟩ : ∃ k : Nat, a = (k : Int) := ⟨a.toNat, by omega⟩
      refine ⟨⟨k, b, s.data.toList, n⟩, ?_, ?_⟩
      · unfold rwC
        dsimp only
        rw [← str_self s]
      · refine ⟨by simpa using w2, by show k < 256; omega, hn.1, hn.2⟩
def IsTs8 (w : World) (A : Option Addr) (len cap : Nat) : Prop := ∃ rs : List Tk, rs.length = len ∧ RR w A cap rs
theorem open_toks {fuel : Nat} {A : Option Addr} {len cap : Nat} {x : DataW H × List MemPlace} (h : DataW.trod enc Tryz.prog w 0 (fun _ => true) true fuel 39 [.slice A len cap] = some x) : IsTs8 w A len cap := by
  have kl : Tryz.prog.cellsOf 47 = 4 := by kernel_rfl
  rcases open_slice Tryz.underlying39 h with ⟨e, _⟩ | ⟨a, l, c, m, n, D, Pl, e, _, hl, hm, hmm, _, hi⟩
  · injection e with e _
    injection e with e1 e2 e3
    subst e1 e2 e3
    exact ⟨[], rfl, ⟨Nat.le_refl _, by simp [maxLen], OKL.nil, (fun j h => absurd h (by simp))⟩⟩
  · injection e with e _
    injection e with e1 e2 e3
    subst e1 e2 e3
    obtain ⟨ls, hls, hp⟩ := list_ofT (P := fun i y => OKx y ∧ RwAt w (a.add (i * 4)) y) len (fun i him => by
      obtain ⟨cs, hc, ht⟩ := hi i (by simp at hmm; omega)
      rw [kl] at hc
      obtain ⟨_, hcl, hat⟩ := World.cells?_some hc
      obtain ⟨y, rfl, hy⟩ := open_tok ht
      refine ⟨y, hy, ?_⟩
      have hcell : ∀ j, j < 4 → w.cell? ((a.add (i * 4)).add j) = (rwC y)[j]? := fun j hj => hat j hj
      have h0 := hcell 0 (by omega)
      rw [add_add_, Nat.add_zero] at h0
      have hs : ∀ j, j < 3 → w.cell? ⟨(a.add (i * 4)).block, (a.add (i * 4)).off + (j + 1), none⟩ = (rwC y)[j + 1]? := fun j hj => by
        have := hcell (j + 1) (by omega)
        rwa [add_succ_] at this
      exact ⟨h0, hs 0 (by omega), hs 1 (by omega), hs 2 (by omega)⟩)
    refine ⟨ls, hls, ⟨by omega, by omega, fun y hy => ?_, fun j hj => ⟨a, rfl, (hp j (by omega)).2⟩⟩⟩
    obtain ⟨i, hi', rfl⟩ := List.getElem_of_mem hy
    have := (hp i (by omega)).1
    have e : ls.getD i r0 = ls[i] := by simp [hi']
    rwa [e] at this
end
end Go.Proofs.YtplcmcealeeppaaGreatDoor
