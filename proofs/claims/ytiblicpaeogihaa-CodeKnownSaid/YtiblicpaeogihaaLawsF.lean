/- The law on lists of instructions returns true for every list and every slice of bytes. -/
import Derived.Test.YtiblicpaeogihaaAllb
namespace Go.Proofs.Ytiblicpaeogihaa
open Go Go.RowKit

theorem own_litI (w : World) : OwnI (w.alloc (.cells #[] 23)) w.heap.size (some ⟨w.heap.size, 0, none⟩) 0 0 [] :=
  World.ownsRow_made w #[] 0 (Nat.le_refl _) (by simp [maxLen]) rfl
theorem jb_by (l : List II) : BY (jb l) := by
  unfold jb
  split
  · rename_i h
    have hv : av l = true := by
      by_cases hv : av l = true
      · exact hv
      · rw [je_bad hv] at h; exact absurd h (by decide)
    exact jl_by hv
  · intro x hx; cases hx
theorem cut_is {ls : List II} (k : Nat) : min ls.length k = (ls.take k).length := by simp; omega
set_option maxRecDepth 100000 in
set_option maxHeartbeats 8000000 in
theorem lists_law {A B : Option Addr} {L m c K k d : Nat} {ls : List II} {ys : List Nat} {w : World} (R : RI w A c ls) (S : RS w B d ys) (hm : ls.length = m) (hk : ys.length = k) (hL : Cut L m 100) (hc : L ≤ c) (hK : Cut K k 300) (hd : K ≤ d) :
    Calls Try.prog 5 #[.slice A L c, .slice B K d] w fun e w' => e = .returned (.bool true) ∧ w.grownBy w' none := by
  have HR := Lib.hid R
  have HS := Lib.hid S
  have HM := Lib.hid hm
  have HK := Lib.hid hk
  have HB := Lib.hid (show m ≤ 100 ∧ k ≤ 300 by unfold Cut at hL hK; omega)
  have q1 : (L : Int) ≤ (c : Int) := by omega
  have q4 : (K : Int) ≤ (d : Int) := by omega
  have e100 : max (100 : Int) 0 = 100 := by decide
  have e300 : max (300 : Int) 0 = 300 := by decide
  have C1 := Lib.hid (fun (w1 : World) (A1 : Option Addr) (c1 : Nat) (R1 : RI w1 A1 c1 ls) => Join_any R1 hm (by have := HB.out; omega))
  have C2 := Lib.hid (fun (w1 : World) (A1 : Option Addr) (c1 : Nat) (R1 : RI w1 A1 c1 ls) => rJoin_any R1 hm (by have := HB.out; omega))
  have C3 := Lib.hid (fun (w1 : World) (A1 : Option Addr) (c1 : Nat) (R1 : RS w1 A1 c1 ys) => All_any R1 hk)
  have C4 := Lib.hid (fun (w1 : World) (A1 : Option Addr) (c1 : Nat) (R1 : RS w1 A1 c1 ys) => rAll_any R1 hk)
  have HJ := Lib.hid (jb_by ls)
  have HA := Lib.hid (al_words S.by_)
  unfold Gives at C1 C2
  unfold GivesI at C3 C4
  generalize jb ls = zs at *
  generalize je ls = E1 at *
  generalize al ys = ks at *
  generalize ae ys = E2 at *
  clear R S hm hk
  unfold Cut at hL hK
  obtain ⟨h20, h21⟩ | ⟨h20, h21⟩ := hL <;> obtain ⟨h10, h11⟩ | ⟨h10, h11⟩ := hK
  · subst h21
    subst h11
    go_enter Try.func5, Try.ntmps5
    go_wp2
    go_quiet (fail)
    have GW := Lib.hid (g_drew (World.grownBy.refl w none) nq)
    generalize w.drewN nq = W at *
    go_wp2_with (first
      | (at_builtin; refine app_inss rfl (.tmp 25) (.tmp 26) rfl W.heap.size 0 0 m c m (some ⟨W.heap.size, 0, none⟩) A [] ls rfl rfl (own_litI W) HM.out (HR.out.kept0 (g_trans GW.out (World.grownBy_alloc W _ none))) (by omega) (by have := HB.out; omega) (by simp) ?_; intro A1 c1 w1 o1 g1 _; have H1 := Lib.hid (ownI_app (o := none) (World.grownBy_alloc W _ none) (own_litI W) g1 o1); clear o1 g1)
      | (at_builtin; refine app_bytes rfl (.tmp 28) (.tmp 29) rfl w1.heap.size 0 0 k d k (some ⟨w1.heap.size, 0, none⟩) B [] ys rfl rfl (own_lit w1) HK.out (HS.out.kept0 (g_trans (g_trans GW.out H1.out.1) (World.grownBy_alloc w1 _ none))).rd (by omega) (by have := HB.out; omega) (by simp) ?_; intro A2 c2 w2 o2 g2; have H2 := Lib.hid (own_app (o := none) (World.grownBy_alloc w1 _ none) (own_lit w1) g2 o2); clear o2 g2; have K2 := Lib.hid (And.intro (g_trans (g_trans GW.out H1.out.1) H2.out.1) (And.intro (show RI w2 A1 c1 ls from (H1.out.2.ri HR.out.ok).kept0 H2.out.1) (show RS w2 A2 c2 ys from (OwnB.rs (own_of H2.out.2 HK.out.symm) HS.out.by_).1))))
      | (go_at_call 20; (with_reducible refine (C1.out _ _ _ K2.out.2.1).mono ?_); rintro e w3 ⟨A3, c3, rfl, o3, g3⟩; have H3 := Lib.hid (And.intro (OwnB.rs o3 HJ.out).1 (And.intro (g_trans K2.out.1 g3) (And.intro (K2.out.2.1.kept0 g3) (K2.out.2.2.kept0 g3)))); clear o3 g3)
      | (go_at_call 21; (with_reducible refine (C2.out _ _ _ (HR.out.kept0 H3.out.2.1)).mono ?_); rintro e w4 ⟨A4, c4, rfl, o4, g4⟩; have H4 := Lib.hid (And.intro (And.intro (OwnB.rs o4 HJ.out).1 (H3.out.1.kept0 g4)) (And.intro (g_trans H3.out.2.1 g4) (And.intro (H3.out.2.2.1.kept0 g4) (H3.out.2.2.2.kept0 g4)))); clear o4 g4)
      | (go_at_call 22; (with_reducible refine (C3.out _ _ _ H4.out.2.2.2).mono ?_); rintro e w5 ⟨A5, c5, rfl, o5, g5⟩; have H5 := Lib.hid (And.intro (o5.ri HA.out) (And.intro (And.intro (H4.out.1.1.kept0 g5) (H4.out.1.2.kept0 g5)) (And.intro (g_trans H4.out.2.1 g5) (And.intro (H4.out.2.2.1.kept0 g5) (H4.out.2.2.2.kept0 g5))))); clear o5 g5)
      | (go_at_call 23; (with_reducible refine (C4.out _ _ _ (HS.out.kept0 H5.out.2.2.1)).mono ?_); rintro e w6 ⟨A6, c6, rfl, o6, g6⟩; have H6 := Lib.hid (And.intro (And.intro (o6.ri HA.out) (H5.out.1.kept0 g6)) (And.intro (And.intro (H5.out.2.1.1.kept0 g6) (H5.out.2.1.2.kept0 g6)) (And.intro (g_trans H5.out.2.2.1 g6) (And.intro (H5.out.2.2.2.1.kept0 g6) (H5.out.2.2.2.2.kept0 g6))))); clear o6 g6; have s1 := str_any H6.out.2.1.1 _ rfl; have s2 := str_any H6.out.2.1.2 _ rfl)
      | (go_at_call 24; (with_reducible refine (Same_any H6.out.1.2 H6.out.1.1 rfl).mono ?_); rintro e w7 ⟨rfl, g7⟩; have G7 := Lib.hid g7; clear g7)
      | (go_at_call 24; (with_reducible refine (Same_any (H6.out.2.2.2.1.kept0 G7.out) (HR.out.kept0 (g_trans H6.out.2.2.1 G7.out)) HM.out).mono ?_); rintro e w8 ⟨rfl, g8⟩; have G8 := Lib.hid (And.intro (g_trans (g_trans H6.out.2.2.1 G7.out) g8) (H6.out.2.2.2.2.kept0 (g_trans G7.out g8))); clear g8; have s3 := str_any G8.out.2 k HK.out.symm; have s4 := str_any (HS.out.kept0 G8.out.1) k HK.out.symm)
      | (go_at_call 17; (with_reducible refine (works_any _).mono ?_); rintro e w9 ⟨rfl, g9⟩; have G9 := Lib.hid (g_trans G8.out.1 g9); clear g9))
    go_ret
    exact ⟨rfl, G9.out⟩
  · subst h21
    have H11 := Lib.hid h11
    clear h11
    go_enter Try.func5, Try.ntmps5
    go_wp2
    go_quiet (fail)
    rw [show Value.slice B 300 d = Value.slice B k d by rw [H11.out]]
    have GW := Lib.hid (g_drew (World.grownBy.refl w none) nq)
    generalize w.drewN nq = W at *
    go_wp2_with (first
      | (at_builtin; refine app_inss rfl (.tmp 25) (.tmp 26) rfl W.heap.size 0 0 m c m (some ⟨W.heap.size, 0, none⟩) A [] ls rfl rfl (own_litI W) HM.out (HR.out.kept0 (g_trans GW.out (World.grownBy_alloc W _ none))) (by omega) (by have := HB.out; omega) (by simp) ?_; intro A1 c1 w1 o1 g1 _; have H1 := Lib.hid (ownI_app (o := none) (World.grownBy_alloc W _ none) (own_litI W) g1 o1); clear o1 g1)
      | (at_builtin; refine app_bytes rfl (.tmp 28) (.tmp 29) rfl w1.heap.size 0 0 k d k (some ⟨w1.heap.size, 0, none⟩) B [] ys rfl rfl (own_lit w1) HK.out (HS.out.kept0 (g_trans (g_trans GW.out H1.out.1) (World.grownBy_alloc w1 _ none))).rd (by omega) (by have := HB.out; omega) (by simp) ?_; intro A2 c2 w2 o2 g2; have H2 := Lib.hid (own_app (o := none) (World.grownBy_alloc w1 _ none) (own_lit w1) g2 o2); clear o2 g2; have K2 := Lib.hid (And.intro (g_trans (g_trans GW.out H1.out.1) H2.out.1) (And.intro (show RI w2 A1 c1 ls from (H1.out.2.ri HR.out.ok).kept0 H2.out.1) (show RS w2 A2 c2 ys from (OwnB.rs (own_of H2.out.2 HK.out.symm) HS.out.by_).1))))
      | (go_at_call 20; (with_reducible refine (C1.out _ _ _ K2.out.2.1).mono ?_); rintro e w3 ⟨A3, c3, rfl, o3, g3⟩; have H3 := Lib.hid (And.intro (OwnB.rs o3 HJ.out).1 (And.intro (g_trans K2.out.1 g3) (And.intro (K2.out.2.1.kept0 g3) (K2.out.2.2.kept0 g3)))); clear o3 g3)
      | (go_at_call 21; (with_reducible refine (C2.out _ _ _ (HR.out.kept0 H3.out.2.1)).mono ?_); rintro e w4 ⟨A4, c4, rfl, o4, g4⟩; have H4 := Lib.hid (And.intro (And.intro (OwnB.rs o4 HJ.out).1 (H3.out.1.kept0 g4)) (And.intro (g_trans H3.out.2.1 g4) (And.intro (H3.out.2.2.1.kept0 g4) (H3.out.2.2.2.kept0 g4)))); clear o4 g4)
      | (go_at_call 22; (with_reducible refine (C3.out _ _ _ H4.out.2.2.2).mono ?_); rintro e w5 ⟨A5, c5, rfl, o5, g5⟩; have H5 := Lib.hid (And.intro (o5.ri HA.out) (And.intro (And.intro (H4.out.1.1.kept0 g5) (H4.out.1.2.kept0 g5)) (And.intro (g_trans H4.out.2.1 g5) (And.intro (H4.out.2.2.1.kept0 g5) (H4.out.2.2.2.kept0 g5))))); clear o5 g5)
      | (go_at_call 23; (with_reducible refine (C4.out _ _ _ (HS.out.kept0 H5.out.2.2.1)).mono ?_); rintro e w6 ⟨A6, c6, rfl, o6, g6⟩; have H6 := Lib.hid (And.intro (And.intro (o6.ri HA.out) (H5.out.1.kept0 g6)) (And.intro (And.intro (H5.out.2.1.1.kept0 g6) (H5.out.2.1.2.kept0 g6)) (And.intro (g_trans H5.out.2.2.1 g6) (And.intro (H5.out.2.2.2.1.kept0 g6) (H5.out.2.2.2.2.kept0 g6))))); clear o6 g6; have s1 := str_any H6.out.2.1.1 _ rfl; have s2 := str_any H6.out.2.1.2 _ rfl)
      | (go_at_call 24; (with_reducible refine (Same_any H6.out.1.2 H6.out.1.1 rfl).mono ?_); rintro e w7 ⟨rfl, g7⟩; have G7 := Lib.hid g7; clear g7)
      | (go_at_call 24; (with_reducible refine (Same_any (H6.out.2.2.2.1.kept0 G7.out) (HR.out.kept0 (g_trans H6.out.2.2.1 G7.out)) HM.out).mono ?_); rintro e w8 ⟨rfl, g8⟩; have G8 := Lib.hid (And.intro (g_trans (g_trans H6.out.2.2.1 G7.out) g8) (H6.out.2.2.2.2.kept0 (g_trans G7.out g8))); clear g8; have s3 := str_any G8.out.2 k HK.out.symm; have s4 := str_any (HS.out.kept0 G8.out.1) k HK.out.symm)
      | (go_at_call 17; (with_reducible refine (works_any _).mono ?_); rintro e w9 ⟨rfl, g9⟩; have G9 := Lib.hid (g_trans G8.out.1 g9); clear g9))
    go_ret
    exact ⟨rfl, G9.out⟩
  · have H21 := Lib.hid h21
    clear h21
    subst h11
    go_enter Try.func5, Try.ntmps5
    go_wp2
    go_quiet (fail)
    rw [show Value.slice A 100 c = Value.slice A m c by rw [H21.out]]
    have GW := Lib.hid (g_drew (World.grownBy.refl w none) nq)
    generalize w.drewN nq = W at *
    go_wp2_with (first
      | (at_builtin; refine app_inss rfl (.tmp 25) (.tmp 26) rfl W.heap.size 0 0 m c m (some ⟨W.heap.size, 0, none⟩) A [] ls rfl rfl (own_litI W) HM.out (HR.out.kept0 (g_trans GW.out (World.grownBy_alloc W _ none))) (by omega) (by have := HB.out; omega) (by simp) ?_; intro A1 c1 w1 o1 g1 _; have H1 := Lib.hid (ownI_app (o := none) (World.grownBy_alloc W _ none) (own_litI W) g1 o1); clear o1 g1)
      | (at_builtin; refine app_bytes rfl (.tmp 28) (.tmp 29) rfl w1.heap.size 0 0 k d k (some ⟨w1.heap.size, 0, none⟩) B [] ys rfl rfl (own_lit w1) HK.out (HS.out.kept0 (g_trans (g_trans GW.out H1.out.1) (World.grownBy_alloc w1 _ none))).rd (by omega) (by have := HB.out; omega) (by simp) ?_; intro A2 c2 w2 o2 g2; have H2 := Lib.hid (own_app (o := none) (World.grownBy_alloc w1 _ none) (own_lit w1) g2 o2); clear o2 g2; have K2 := Lib.hid (And.intro (g_trans (g_trans GW.out H1.out.1) H2.out.1) (And.intro (show RI w2 A1 c1 ls from (H1.out.2.ri HR.out.ok).kept0 H2.out.1) (show RS w2 A2 c2 ys from (OwnB.rs (own_of H2.out.2 HK.out.symm) HS.out.by_).1))))
      | (go_at_call 20; (with_reducible refine (C1.out _ _ _ K2.out.2.1).mono ?_); rintro e w3 ⟨A3, c3, rfl, o3, g3⟩; have H3 := Lib.hid (And.intro (OwnB.rs o3 HJ.out).1 (And.intro (g_trans K2.out.1 g3) (And.intro (K2.out.2.1.kept0 g3) (K2.out.2.2.kept0 g3)))); clear o3 g3)
      | (go_at_call 21; (with_reducible refine (C2.out _ _ _ (HR.out.kept0 H3.out.2.1)).mono ?_); rintro e w4 ⟨A4, c4, rfl, o4, g4⟩; have H4 := Lib.hid (And.intro (And.intro (OwnB.rs o4 HJ.out).1 (H3.out.1.kept0 g4)) (And.intro (g_trans H3.out.2.1 g4) (And.intro (H3.out.2.2.1.kept0 g4) (H3.out.2.2.2.kept0 g4)))); clear o4 g4)
      | (go_at_call 22; (with_reducible refine (C3.out _ _ _ H4.out.2.2.2).mono ?_); rintro e w5 ⟨A5, c5, rfl, o5, g5⟩; have H5 := Lib.hid (And.intro (o5.ri HA.out) (And.intro (And.intro (H4.out.1.1.kept0 g5) (H4.out.1.2.kept0 g5)) (And.intro (g_trans H4.out.2.1 g5) (And.intro (H4.out.2.2.1.kept0 g5) (H4.out.2.2.2.kept0 g5))))); clear o5 g5)
      | (go_at_call 23; (with_reducible refine (C4.out _ _ _ (HS.out.kept0 H5.out.2.2.1)).mono ?_); rintro e w6 ⟨A6, c6, rfl, o6, g6⟩; have H6 := Lib.hid (And.intro (And.intro (o6.ri HA.out) (H5.out.1.kept0 g6)) (And.intro (And.intro (H5.out.2.1.1.kept0 g6) (H5.out.2.1.2.kept0 g6)) (And.intro (g_trans H5.out.2.2.1 g6) (And.intro (H5.out.2.2.2.1.kept0 g6) (H5.out.2.2.2.2.kept0 g6))))); clear o6 g6; have s1 := str_any H6.out.2.1.1 _ rfl; have s2 := str_any H6.out.2.1.2 _ rfl)
      | (go_at_call 24; (with_reducible refine (Same_any H6.out.1.2 H6.out.1.1 rfl).mono ?_); rintro e w7 ⟨rfl, g7⟩; have G7 := Lib.hid g7; clear g7)
      | (go_at_call 24; (with_reducible refine (Same_any (H6.out.2.2.2.1.kept0 G7.out) (HR.out.kept0 (g_trans H6.out.2.2.1 G7.out)) HM.out).mono ?_); rintro e w8 ⟨rfl, g8⟩; have G8 := Lib.hid (And.intro (g_trans (g_trans H6.out.2.2.1 G7.out) g8) (H6.out.2.2.2.2.kept0 (g_trans G7.out g8))); clear g8; have s3 := str_any G8.out.2 k HK.out.symm; have s4 := str_any (HS.out.kept0 G8.out.1) k HK.out.symm)
      | (go_at_call 17; (with_reducible refine (works_any _).mono ?_); rintro e w9 ⟨rfl, g9⟩; have G9 := Lib.hid (g_trans G8.out.1 g9); clear g9))
    go_ret
    exact ⟨rfl, G9.out⟩
  · have H21 := Lib.hid h21
    clear h21
    have H11 := Lib.hid h11
    clear h11
    go_enter Try.func5, Try.ntmps5
    go_wp2
    go_quiet (fail)
    rw [show Value.slice A 100 c = Value.slice A m c by rw [H21.out]]
    rw [show Value.slice B 300 d = Value.slice B k d by rw [H11.out]]
    have GW := Lib.hid (g_drew (World.grownBy.refl w none) nq)
    generalize w.drewN nq = W at *
    go_wp2_with (first
      | (at_builtin; refine app_inss rfl (.tmp 25) (.tmp 26) rfl W.heap.size 0 0 m c m (some ⟨W.heap.size, 0, none⟩) A [] ls rfl rfl (own_litI W) HM.out (HR.out.kept0 (g_trans GW.out (World.grownBy_alloc W _ none))) (by omega) (by have := HB.out; omega) (by simp) ?_; intro A1 c1 w1 o1 g1 _; have H1 := Lib.hid (ownI_app (o := none) (World.grownBy_alloc W _ none) (own_litI W) g1 o1); clear o1 g1)
      | (at_builtin; refine app_bytes rfl (.tmp 28) (.tmp 29) rfl w1.heap.size 0 0 k d k (some ⟨w1.heap.size, 0, none⟩) B [] ys rfl rfl (own_lit w1) HK.out (HS.out.kept0 (g_trans (g_trans GW.out H1.out.1) (World.grownBy_alloc w1 _ none))).rd (by omega) (by have := HB.out; omega) (by simp) ?_; intro A2 c2 w2 o2 g2; have H2 := Lib.hid (own_app (o := none) (World.grownBy_alloc w1 _ none) (own_lit w1) g2 o2); clear o2 g2; have K2 := Lib.hid (And.intro (g_trans (g_trans GW.out H1.out.1) H2.out.1) (And.intro (show RI w2 A1 c1 ls from (H1.out.2.ri HR.out.ok).kept0 H2.out.1) (show RS w2 A2 c2 ys from (OwnB.rs (own_of H2.out.2 HK.out.symm) HS.out.by_).1))))
      | (go_at_call 20; (with_reducible refine (C1.out _ _ _ K2.out.2.1).mono ?_); rintro e w3 ⟨A3, c3, rfl, o3, g3⟩; have H3 := Lib.hid (And.intro (OwnB.rs o3 HJ.out).1 (And.intro (g_trans K2.out.1 g3) (And.intro (K2.out.2.1.kept0 g3) (K2.out.2.2.kept0 g3)))); clear o3 g3)
      | (go_at_call 21; (with_reducible refine (C2.out _ _ _ (HR.out.kept0 H3.out.2.1)).mono ?_); rintro e w4 ⟨A4, c4, rfl, o4, g4⟩; have H4 := Lib.hid (And.intro (And.intro (OwnB.rs o4 HJ.out).1 (H3.out.1.kept0 g4)) (And.intro (g_trans H3.out.2.1 g4) (And.intro (H3.out.2.2.1.kept0 g4) (H3.out.2.2.2.kept0 g4)))); clear o4 g4)
      | (go_at_call 22; (with_reducible refine (C3.out _ _ _ H4.out.2.2.2).mono ?_); rintro e w5 ⟨A5, c5, rfl, o5, g5⟩; have H5 := Lib.hid (And.intro (o5.ri HA.out) (And.intro (And.intro (H4.out.1.1.kept0 g5) (H4.out.1.2.kept0 g5)) (And.intro (g_trans H4.out.2.1 g5) (And.intro (H4.out.2.2.1.kept0 g5) (H4.out.2.2.2.kept0 g5))))); clear o5 g5)
      | (go_at_call 23; (with_reducible refine (C4.out _ _ _ (HS.out.kept0 H5.out.2.2.1)).mono ?_); rintro e w6 ⟨A6, c6, rfl, o6, g6⟩; have H6 := Lib.hid (And.intro (And.intro (o6.ri HA.out) (H5.out.1.kept0 g6)) (And.intro (And.intro (H5.out.2.1.1.kept0 g6) (H5.out.2.1.2.kept0 g6)) (And.intro (g_trans H5.out.2.2.1 g6) (And.intro (H5.out.2.2.2.1.kept0 g6) (H5.out.2.2.2.2.kept0 g6))))); clear o6 g6; have s1 := str_any H6.out.2.1.1 _ rfl; have s2 := str_any H6.out.2.1.2 _ rfl)
      | (go_at_call 24; (with_reducible refine (Same_any H6.out.1.2 H6.out.1.1 rfl).mono ?_); rintro e w7 ⟨rfl, g7⟩; have G7 := Lib.hid g7; clear g7)
      | (go_at_call 24; (with_reducible refine (Same_any (H6.out.2.2.2.1.kept0 G7.out) (HR.out.kept0 (g_trans H6.out.2.2.1 G7.out)) HM.out).mono ?_); rintro e w8 ⟨rfl, g8⟩; have G8 := Lib.hid (And.intro (g_trans (g_trans H6.out.2.2.1 G7.out) g8) (H6.out.2.2.2.2.kept0 (g_trans G7.out g8))); clear g8; have s3 := str_any G8.out.2 k HK.out.symm; have s4 := str_any (HS.out.kept0 G8.out.1) k HK.out.symm)
      | (go_at_call 17; (with_reducible refine (works_any _).mono ?_); rintro e w9 ⟨rfl, g9⟩; have G9 := Lib.hid (g_trans G8.out.1 g9); clear g9))
    go_ret
    exact ⟨rfl, G9.out⟩
/-- A slice of instructions that came in. -/
def IsL (w : World) (A : Option Addr) (len cap : Nat) : Prop := IsIs w A len ∧ len ≤ cap ∧ cap ≤ maxLen
section
variable {H : Type} {enc : TypeId × Value → H} {w : World}
theorem open_list {fuel : Nat} {A : Option Addr} {len cap : Nat} {x : DataW H × List MemPlace} (h : DataW.trod enc Try.prog w 0 (fun _ => true) true fuel 43 [.slice A len cap] = some x) : IsL w A len cap := open_inss h
end
theorem walkCodeLists (a0 : Option Addr) (len0 cap0 : Nat) (a1 : Option Addr) (len1 cap1 : Nat) (z1 : List Int) (w : World) (w0 : IsL w a0 len0 cap0) (w1 : Came w a1 len1 cap1 z1) :
    Calls Try.prog 5 #[.slice a0 len0 cap0, .slice a1 len1 cap1] w fun e w' => e = .returned (.bool true) ∧ Below w.heap.size w w' := by
  obtain ⟨ls, rfl, R⟩ := ins_of_is w0
  obtain ⟨ys, rfl, S, _⟩ := w1.rs
  exact (lists_law (R.take 100) (S.take 300) (cut_is 100).symm (cut_ys 300).symm (cut_of _ _) w0.2.1 (cut_of _ _) S.le).mono fun _ _ ⟨he, hg⟩ => ⟨he, g_below0 hg⟩
end Go.Proofs.Ytiblicpaeogihaa
