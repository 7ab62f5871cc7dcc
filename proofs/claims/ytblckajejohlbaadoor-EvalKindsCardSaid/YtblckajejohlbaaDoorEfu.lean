/- The reference: Fits. -/
import Derived.Test.YtblckajejohlbaaDoorEft
import Derived.Test.YtblckajejohlbaaDoorEkp
set_option linter.unusedVariables false
set_option linter.unusedSimpArgs false
set_option linter.unusedVariables false
set_option linter.unusedSimpArgs false
namespace Go.Proofs.YtblckajejohlbaaDoor
open Go Go.RowKit L8 L22 L17
open L14 (inW)

theorem v_pos {e : Kx} (ok : okX e = true) (h : e.k = 2 ∨ e.k = 3) : 0 ≤ e.v := by
  have hs := ok_sh ok
  unfold shX at hs
  rcases h with h | h
  · rw [if_neg (by omega), if_pos h] at hs
    simp only [Bool.and_eq_true, decide_eq_true_eq] at hs
    omega
  · rw [if_neg (by omega), if_neg (by omega), if_pos h] at hs
    simp only [Bool.and_eq_true, decide_eq_true_eq] at hs
    omega
theorem Fits_all (vs : List Vr) (B : Option Addr) (bn bc : Nat) (hbn : vs.length = bn) : ∀ e : Kx, okX e = true → FitC vs B bn bc e := by
  refine Kx.ind fun e ih ok => ?_
  intro A n c k w hk R hn okk V
  rcases shape3 ok with ⟨h, hkk⟩ | ⟨a, h, hkk, oa⟩ | ⟨a, b, h, hkk, oa, ob⟩
  · rcases hkk with hkk | hkk
    · rw [← eqf_1 vs hkk k]
      exact ft_1 vs B bn bc hbn e hkk A n c k w hk R hn V
    · rw [← eqf_2 vs hkk hbn k]
      exact ft_2 vs B bn bc hbn e hkk (v_pos ok (.inl hkk)) A n c k w hk R hn V
  · have F0 : FitC vs B bn bc a := ih a (by rw [h]; exact List.mem_cons_self ..) oa
    rcases hkk with hkk | hkk | hkk
    · rw [← eqf_3 vs hkk h hbn k]
      exact ft_3 vs B bn bc hbn e a [] h F0 hkk (v_pos ok (.inr hkk)) A n c k w hk R hn V
    · by_cases ho : e.o = 26
      · rw [← eqf_4n vs hkk ho h k]
        exact ft_4n vs B bn bc hbn e a [] h F0 hkk ho A n c k w hk R hn V
      · rw [← eqf_4o vs hkk ho h k]
        exact ft_4o vs B bn bc hbn e a [] h F0 hkk ho A n c k w hk R hn V
    · rw [← eqf_6 vs hkk h k]
      exact ft_6 vs B bn bc hbn e a [] h F0 hkk A n c k w hk R hn V
  · have F0 : FitC vs B bn bc a := ih a (by rw [h]; exact List.mem_cons_self ..) oa
    have F1 : FitC vs B bn bc b := ih b (by rw [h]; exact List.mem_cons_of_mem _ (List.mem_cons_self ..)) ob
    rw [eqf_5 vs hkk h k]
    by_cases o13 : e.o ≤ 13
    · rw [if_pos o13]
      exact ft_5a vs B bn bc hbn e a b h F0 F1 hkk A n c k w hk R hn V o13
    rw [if_neg o13]
    by_cases h3 : k ≠ 3
    · rw [if_pos h3]
      exact ft_5b vs B bn bc hbn e a b h F0 F1 hkk A n c k w hk R hn V (by omega) h3
    rw [if_neg h3]
    have h3 : k = 3 := by omega
    by_cases o14 : e.o = 14
    · rw [if_pos (.inl o14)]
      exact ft_5c vs B bn bc hbn e a b h F0 F1 hkk A n c k w hk R hn V o14 h3
    by_cases o15 : e.o = 15
    · rw [if_pos (.inr o15)]
      exact ft_5d vs B bn bc hbn e a b h F0 F1 hkk A n c k w hk R hn V o15 h3
    rw [if_neg (by omega)]
    by_cases o19 : e.o ≤ 19
    · rw [if_pos o19]
      exact ft_5e vs B bn bc hbn e a b h F0 F1 hkk A n c k w hk R hn V (by omega) h3
    rw [if_neg o19]
    by_cases o22 : e.o = 22
    · rw [if_pos o22]
      exact ft_5f vs B bn bc hbn e a b h F0 F1 hkk A n c k w hk R hn V o22 h3
    · rw [if_neg o22]
      exact ft_5g vs B bn bc hbn e a b h F0 F1 hkk A n c k w hk R hn V (by omega) o22 h3
set_option maxRecDepth 100000 in
set_option maxHeartbeats 4000000 in
theorem RFits_any (vs : List Vr) (B : Option Addr) (bn bc : Nat) (hbn : vs.length = bn) (e : Kx) (A : Option Addr) (n c k : Nat) (w : World) (hk : k < 256) (R : KrR w A c e.l) (hn : e.l.length = n) (okk : OKk e) (V : VaR w B bc vs) : Calls Tryd.prog 35 #[.slice B bn bc, kxV e A n c, .int .u8 (k : Int)] w fun en w' => en = .returned (.bool (mayX e && ftX vs e k)) ∧ Below w.heap.size w w' := by
  have HV := Lib.hid (FtS.new (n := n) R V)
  have HP := Lib.hid fun X (H : Hid (FtS w X e A n c vs B bc)) => H.out.ks.box
  have CV := Lib.hid fun X (H : Hid (FtS w X e A n c vs B bc)) => RValid_any e A n c X H.out.ks.tr hn okk
  obtain ⟨p0, p1, p2, p3, p4, p5⟩ := HP.out _ HV
  cases hm : mayX e with
  | false =>
    rw [hm] at CV
    clear R V hn okk hm hbn
    dsimp only [kxV, kxC] at *
    go_enter Tryd.func35, Tryd.ntmps35
    go_wp2_with (go_at_call 25; (with_reducible refine (CV.out _ HV).mono ?_); rintro en w2 ⟨rfl, b⟩; have H2 := Lib.hid (HV.out.step b); clear b)
    go_ret
    exact ⟨by simp, H2.out.bel⟩
  | true =>
    rw [hm] at CV
    have ok : okX e = true := (may_iff.1 hm).1
    have CF := Lib.hid fun X (H : Hid (FtS w X e A n c vs B bc)) => Fits_all vs B bn bc hbn e ok A n c k X hk H.out.ks.tr hn okk H.out.v
    generalize ftX vs e k = f at *
    clear R V hn okk hm hbn ok
    dsimp only [kxV, kxC] at *
    go_enter Tryd.func35, Tryd.ntmps35
    go_wp2_with (first
      | (go_at_call 25; (with_reducible refine (CV.out _ HV).mono ?_); rintro en w2 ⟨rfl, b⟩; have H2 := Lib.hid (HV.out.step b); clear b; clear p0 p1 p2 p3 p4 p5; obtain ⟨p0, p1, p2, p3, p4, p5⟩ := HP.out _ H2)
      | (go_at_call 56; (with_reducible refine (CF.out _ H2).mono ?_); rintro en w3 ⟨rfl, b⟩; have H3 := Lib.hid (H2.out.step b); clear b))
    go_ret
    exact ⟨by simp, H3.out.bel⟩
end Go.Proofs.YtblckajejohlbaaDoor
