/- The program: the tokens of a type. -/
import Derived.Test.YtbkbhlbfkfnljaaGreatDoorM13
set_option linter.unusedVariables false
set_option linter.unusedSimpArgs false
set_option linter.unusedVariables false
set_option linter.unusedSimpArgs false
namespace Go.Proofs.YtbkbhlbfkfnljaaGreatDoor
open Go Go.RowKit L8 L9

theorem kwd_prim {k : Nat} (h : prim k = true) : kwd k = wd k := by
  rcases (prim_iff k).1 h with rfl | rfl | rfl <;> rfl
theorem kwd_len (k : Nat) : (kwd k).length ≤ maxLen := by
  have : (kwd k).length ≤ 5 := by
    by_cases h : k < 6
    · match k, h with
      | 0, _ => decide
      | 1, _ => decide
      | 2, _ => decide
      | 3, _ => decide
      | 4, _ => decide
      | 5, _ => decide
    · have : kwd k = [] := by unfold kwd; rw [List.getD_eq_getElem?_getD, List.getElem?_eq_none (by show 6 ≤ k; omega)]; rfl
      rw [this]; decide
  unfold maxLen; omega
def msgT (t : Ty) : Tk := ⟨msgK t, 0, msgS t, 0⟩
theorem msg_ok {t : Ty} (hp : t.p.length ≤ maxLen) : OKx (msgT t) := by
  refine ⟨?_, ?_, by show (-2147483648 : Int) ≤ 0; decide, by show (0 : Int) ≤ 2147483647; decide⟩
  · show (msgS t).length ≤ maxLen
    unfold msgS
    split
    · exact kwd_len _
    · exact hp
  · show msgK t < 256
    unfold msgK
    split <;> omega
theorem may_k6 {t : Ty} (h : mayT t = true) : t.k < 6 ∧ t.i < 6 := by
  obtain ⟨_, hw⟩ := may_ways h
  rcases hw with ⟨h1, e⟩ | ⟨h1, e⟩ | ⟨h1, e⟩ | rfl
  · have := (prim_iff t.k).1 h1
    have hi : t.i = 0 := by rw [e]
    omega
  · have := (prim_iff t.i).1 h1
    have hk : t.k = 4 := by rw [e]
    omega
  · have hk : t.k = 4 := by rw [e]
    have hi : t.i = 0 := by rw [e]
    omega
  · decide
theorem tok_not4 {t : Ty} {l : List Tk} (h : mayT t = true) (hl : dimT t.d = l) (h4 : t.k ≠ 4) : tokT t = l ++ [kw (kwd t.k)] := by
  obtain ⟨_, hw⟩ := may_ways h
  rcases hw with ⟨h1, e⟩ | ⟨h1, e⟩ | ⟨h1, e⟩ | rfl
  · rw [tok_o hl (fun h5 => by rw [h5] at h1; cases h1) h4, kwd_prim h1]
  · exact absurd (by rw [e]) h4
  · exact absurd (by rw [e]) h4
  · rw [tok_5 hl rfl]; rfl
theorem tok_is4 {t : Ty} {l : List Tk} (h : mayT t = true) (hl : dimT t.d = l) (h4 : t.k = 4) : tokT t = (l ++ [kw (kwd t.k)]) ++ [kw wOf, msgT t] := by
  have hc : kwd t.k = wChan := by rw [h4]; rfl
  rw [hc]
  by_cases hp : t.p = []
  · have hi : prim t.i = true := by
      obtain ⟨_, hw⟩ := may_ways h
      rcases hw with ⟨h1, e⟩ | ⟨h1, e⟩ | ⟨h1, e⟩ | e
      · rw [h4] at h1; cases h1
      · exact h1
      · exact absurd hp (name_ne h1)
      · rw [e] at h4; cases h4
    have hm : msgT t = kw (wd t.i) := by unfold msgT msgK msgS; rw [if_pos hp, if_pos hp, kwd_prim hi]; rfl
    rw [tok_4 hl h4 hp, hm]
    simp
  · have hm : msgT t = nm t.p := by unfold msgT msgK msgS; rw [if_neg hp, if_neg hp]; rfl
    rw [tok_4n hl h4 hp, hm]
    simp
theorem okl_msg {t : Ty} (hp : t.p.length ≤ maxLen) : OKL [kw wOf, msgT t] := by
  intro x hx
  simp only [List.mem_cons, List.not_mem_nil, or_false] at hx
  rcases hx with rfl | rfl
  · exact okx_kw (by unfold maxLen; decide)
  · exact msg_ok hp
theorem row_m {t : Ty} (hp : t.p.length ≤ maxLen) (W : World) : RR (W.alloc (.cells #[.int .u8 2, .int .i64 0, .string ⟨#[79, 70]⟩, .int .i32 0, .int .u8 (msgK t : Int), .int .i64 0, .string (strOf (msgS t)), .int .i32 0] 39)) (some ⟨W.heap.size, 0, none⟩) 2 [kw wOf, msgT t] :=
  rr_new (w := W.alloc (.cells (rwCs [kw wOf, msgT t]).toArray 39)) (e := 39) (okl_msg hp) (by unfold maxLen; simp) (boxS_new W _ _)
set_option maxRecDepth 100000 in
set_option maxHeartbeats 16000000 in
theorem PTok_any (t : Ty) (hx : OKt t) (w : World) (ht : T9 w) : Calls Tryz.prog 4 #[tyV t] w (GivesTk w (tokensT t)) := by
  have HT := Lib.hid (fun (X : World) (b : Below w.heap.size w X) => ht.below b)
  have HV : Hid (TkS w (w.alloc (.cells (tyC t) 24)) t none 0 0 []) := Lib.hid ⟨bal (b0 w) _, boxS_new w _ _, ownR_nil _ _ _⟩
  have CM := Lib.hid (PMay_any t hx _ (HT.out _ HV.out.bel))
  have CK := Lib.hid (fun (s : ByteArray) (W : World) => Pkey_any s W)
  have CS := Lib.hid (fun (s : ByteArray) (W : World) => Psymbol_any s W)
  clear ht
  cases hm : mayT t with
  | false =>
    have HE := Lib.hid (show GivesTk w (tokensT t) = GivesTk w ([], 2) by unfold tokensT; rw [hm]; rfl)
    rw [hm] at CM
    rw [HE.out]
    clear HE hm CK CS hx
    obtain ⟨k, d, i, p⟩ := t
    dsimp only [tyV, tyC] at *
    generalize strOf p = S at *
    go_enter Tryz.func4, Tryz.ntmps4
    go_wp2_with (go_at_call 5; (with_reducible refine (CM.out).mono ?_); rintro e w1 ⟨rfl, b⟩; have H1 := Lib.hid (HV.out.step b); clear b)
    go_ret2
    exact ⟨none, 0, rfl, ownR_nil _ _ _, H1.out.bel⟩
  | true =>
    have hd := (may_ways hm).1
    have HK6 := Lib.hid (may_k6 hm)
    have HG := Lib.hid (fun (X : World) (A : Option Addr) (n c : Nat) (l : List Tk) (h : TkS w X t A n c l) (hl : tokT t = l) (hn : l.length = n) => h.gives hm hl hn)
    have TN := Lib.hid (fun (l : List Tk) (hl : dimT t.d = l) (h : t.k ≠ 4) => tok_not4 hm hl h)
    have T4 := Lib.hid (fun (l : List Tk) (hl : dimT t.d = l) (h : t.k = 4) => tok_is4 hm hl h)
    rw [hm] at CM
    clear hm
    have hp := hx.2.2.1
    clear hx
    have q4 : ((t.k : Int) == 4) = decide (t.k = 4) := nat_eq t.k 4
    have CMs := Lib.hid (fun (W : World) (h : T9 W) => Pmessage_any t HK6.out.2 W h)
    have CN := Lib.hid (fun (W : World) => Pnumber_any hd W)
    have R3 := Lib.hid (fun (W : World) => row_3 hd W)
    have RM := Lib.hid (fun (W : World) => row_m hp W)
    have RK := Lib.hid (fun (W : World) => row_1 (kw (kwd t.k)) (okx_kw (kwd_len _)) W)
    have hk0 : (0 : Int) ≤ (t.k : Int) := by omega
    have hk6 : (t.k : Int) < 6 := by have := HK6.out.1; omega
    obtain ⟨hd0, hd1⟩ := hd
    dsimp only [tyV, tyC] at *
    have CKk := Lib.hid (CK.out (strOf (kwd t.k)))
    have CKo := Lib.hid (CK.out ⟨#[79, 70]⟩)
    have CS1 := Lib.hid (CS.out ⟨#[91]⟩)
    have CS2 := Lib.hid (CS.out ⟨#[93]⟩)
    clear CK CS hp
    by_cases hpos : 0 < t.d
    · have hdim := Lib.hid (dim_pos hpos)
      go_enter Tryz.func4, Tryz.ntmps4
      go_wp2_with (go_at_call 5; (with_reducible refine (CM.out).mono ?_); rintro e w1 ⟨rfl, b⟩; have H1 := Lib.hid (HV.out.step b); obtain ⟨x0, x1, x2, x3⟩ := H1.out.cells; obtain ⟨k0, _⟩ := (HT.out _ H1.out.bel).cells HK6.out.1; clear b)
      replace H1 := Lib.hid (show TkS w w1.drew t none 0 0 [] from H1.out.step (bdrew (b0 _) 1))
      obtain ⟨y0, y1, y2, y3⟩ := H1.out.cells
      go_region_law (first
        | (go_simp; go_at_call 10; (with_reducible refine (CS1.out _).mono ?_); rintro e u1 ⟨rfl, b⟩; have G1 := Lib.hid (H1.out.step b); obtain ⟨s0, s1, s2, s3⟩ := G1.out.cells; clear b)
        | (go_simp; go_at_call 11; (with_reducible refine (CN.out _).mono ?_); rintro e u2 ⟨rfl, b⟩; have G2 := Lib.hid (G1.out.step b); obtain ⟨p0, p1, p2, p3⟩ := G2.out.cells; clear b)
        | (go_simp; go_at_call 10; (with_reducible refine (CS2.out _).mono ?_); rintro e u3 ⟨rfl, b⟩; have G3 := Lib.hid ((G2.out.step b).step (bal (b0 _) (.cells #[.int .u8 5, .int .i64 0, .string ⟨#[91]⟩, .int .i32 0, .int .u8 3, .int .i64 0, .string ⟨#[]⟩, .int .i32 t.d, .int .u8 5, .int .i64 0, .string ⟨#[93]⟩, .int .i32 0] 39))); obtain ⟨v0, v1, v2, v3⟩ := (G2.out.step b).cells; clear b)
        | (refine step_rws rfl (.tmp 11) (.tmp 17) rfl (w.heap.size + 1) 0 0 3 3 3 none (some ⟨u3.heap.size, 0, none⟩) [] [sy [91], nb t.d, sy [93]] rfl rfl G3.out.own rfl (by decide) (R3.out u3) rfl (by decide) G3.out.lt ?_; intro A1 c1 w4 o3 g3; have H0 := Lib.hid (G3.out.app o3 g3); obtain ⟨r0, r1, r2, r3⟩ := H0.out.cells; obtain ⟨k9, _⟩ := (HT.out _ H0.out.bel).cells HK6.out.1; clear o3 g3))
      all_goals (
        by_cases h4 : t.k = 4
        · rw [decide_eq_true h4] at q4
          have HL := Lib.hid (T4.out _ hdim.out h4)
          clear T4 TN h4 hdim
          go_wp2_with (first
            | (go_at_call 12; (with_reducible refine (CKk.out _).mono ?_); rintro e w2 ⟨rfl, b⟩; have H2 := Lib.hid ((H0.out.step b).step (bal (b0 _) (.cells #[.int .u8 2, .int .i64 0, .string (strOf (kwd t.k)), .int .i32 0] 39))); clear b)
            | (at_builtin; (refine app_rws rfl (.tmp 19) (.tmp 26) rfl (w.heap.size + 1) 3 c1 1 1 4 A1 (some ⟨w2.heap.size, 0, none⟩) [sy [91], nb t.d, sy [93]] [kw (kwd t.k)] rfl rfl H2.out.own rfl (RK.out w2) rfl (by decide) H2.out.lt ?_; intro A3 c3 w3 o2 g2; have H3 := Lib.hid (H2.out.app o2 g2); obtain ⟨z0, z1, z2, z3⟩ := H3.out.cells; clear o2 g2)))
          replace H3 := Lib.hid (H3.out.step (bdrew (b0 _) 1))
          obtain ⟨y0, y1, y2, y3⟩ := H3.out.cells
          go_region_law (first
            | (go_simp; go_at_call 12; (with_reducible refine (CKo.out _).mono ?_); rintro e u1 ⟨rfl, b⟩; have E1 := Lib.hid (H3.out.step b); obtain ⟨s0, s1, s2, s3⟩ := E1.out.cells; clear b)
            | (go_simp; go_at_call 13; (with_reducible refine (CMs.out _ (HT.out _ E1.out.bel)).mono ?_); rintro e u2 ⟨rfl, b⟩; have E2 := Lib.hid ((E1.out.step b).step (bal (b0 _) (.cells #[.int .u8 2, .int .i64 0, .string ⟨#[79, 70]⟩, .int .i32 0, .int .u8 (msgK t : Int), .int .i64 0, .string (strOf (msgS t)), .int .i32 0] 39))); obtain ⟨v0, v1, v2, v3⟩ := (E1.out.step b).cells; clear b)
            | (refine step_rws rfl (.tmp 31) (.tmp 35) rfl (w.heap.size + 1) 4 c3 2 2 6 A3 (some ⟨u2.heap.size, 0, none⟩) ([sy [91], nb t.d, sy [93]] ++ [kw (kwd t.k)]) [kw wOf, msgT t] rfl rfl E2.out.own rfl (by decide) (RM.out u2) rfl (by decide) E2.out.lt ?_; intro A5 c5 w5 o3 g3; have H5 := Lib.hid (E2.out.app o3 g3); clear o3 g3))
          all_goals (
            go_wp2
            go_ret2
            exact HG.out _ _ _ _ _ H5.out HL.out rfl)
        · rw [decide_eq_false h4] at q4
          have HL := Lib.hid (TN.out _ hdim.out h4)
          clear T4 TN h4 hdim
          go_wp2_with (first
            | (go_at_call 12; (with_reducible refine (CKk.out _).mono ?_); rintro e w2 ⟨rfl, b⟩; have H2 := Lib.hid ((H0.out.step b).step (bal (b0 _) (.cells #[.int .u8 2, .int .i64 0, .string (strOf (kwd t.k)), .int .i32 0] 39))); clear b)
            | (at_builtin; (refine app_rws rfl (.tmp 19) (.tmp 26) rfl (w.heap.size + 1) 3 c1 1 1 4 A1 (some ⟨w2.heap.size, 0, none⟩) [sy [91], nb t.d, sy [93]] [kw (kwd t.k)] rfl rfl H2.out.own rfl (RK.out w2) rfl (by decide) H2.out.lt ?_; intro A3 c3 w3 o2 g2; have H3 := Lib.hid (H2.out.app o2 g2); obtain ⟨z0, z1, z2, z3⟩ := H3.out.cells; clear o2 g2)))
          go_ret2
          exact HG.out _ _ _ _ _ H3.out HL.out rfl)
    · have hdim := Lib.hid (dim_zero hpos)
      by_cases h4 : t.k = 4
      · rw [decide_eq_true h4] at q4
        have HL := Lib.hid (T4.out _ hdim.out h4)
        clear T4 TN h4 hdim
        go_enter Tryz.func4, Tryz.ntmps4
        go_wp2_with (first
          | (go_at_call 5; (with_reducible refine (CM.out).mono ?_); rintro e w1 ⟨rfl, b⟩; have H1 := Lib.hid (HV.out.step b); obtain ⟨x0, x1, x2, x3⟩ := H1.out.cells; obtain ⟨k0, _⟩ := (HT.out _ H1.out.bel).cells HK6.out.1; clear b)
          | (go_at_call 12; (with_reducible refine (CKk.out _).mono ?_); rintro e w2 ⟨rfl, b⟩; have H2 := Lib.hid ((H1.out.step b).step (bal (b0 _) (.cells #[.int .u8 2, .int .i64 0, .string (strOf (kwd t.k)), .int .i32 0] 39))); clear b)
          | (at_builtin; (refine app_rws rfl (.tmp 19) (.tmp 26) rfl (w.heap.size + 1) 0 0 1 1 1 none (some ⟨w2.heap.size, 0, none⟩) [] [kw (kwd t.k)] rfl rfl H2.out.own rfl (RK.out w2) rfl (by decide) H2.out.lt ?_; intro A3 c3 w3 o2 g2; have H3 := Lib.hid (H2.out.app o2 g2); obtain ⟨z0, z1, z2, z3⟩ := H3.out.cells; clear o2 g2)))
        replace H3 := Lib.hid (H3.out.step (bdrew (b0 _) 1))
        obtain ⟨y0, y1, y2, y3⟩ := H3.out.cells
        go_region_law (first
          | (go_simp; go_at_call 12; (with_reducible refine (CKo.out _).mono ?_); rintro e u1 ⟨rfl, b⟩; have E1 := Lib.hid (H3.out.step b); obtain ⟨s0, s1, s2, s3⟩ := E1.out.cells; clear b)
          | (go_simp; go_at_call 13; (with_reducible refine (CMs.out _ (HT.out _ E1.out.bel)).mono ?_); rintro e u2 ⟨rfl, b⟩; have E2 := Lib.hid ((E1.out.step b).step (bal (b0 _) (.cells #[.int .u8 2, .int .i64 0, .string ⟨#[79, 70]⟩, .int .i32 0, .int .u8 (msgK t : Int), .int .i64 0, .string (strOf (msgS t)), .int .i32 0] 39))); obtain ⟨v0, v1, v2, v3⟩ := (E1.out.step b).cells; clear b)
          | (refine step_rws rfl (.tmp 31) (.tmp 35) rfl (w.heap.size + 1) 1 c3 2 2 3 A3 (some ⟨u2.heap.size, 0, none⟩) ([] ++ [kw (kwd t.k)]) [kw wOf, msgT t] rfl rfl E2.out.own rfl (by decide) (RM.out u2) rfl (by decide) E2.out.lt ?_; intro A5 c5 w5 o3 g3; have H5 := Lib.hid (E2.out.app o3 g3); clear o3 g3))
        all_goals (
          go_wp2
          go_ret2
          exact HG.out _ _ _ _ _ H5.out HL.out rfl)
      · rw [decide_eq_false h4] at q4
        have HL := Lib.hid (TN.out _ hdim.out h4)
        clear T4 TN h4 hdim
        go_enter Tryz.func4, Tryz.ntmps4
        go_wp2_with (first
          | (go_at_call 5; (with_reducible refine (CM.out).mono ?_); rintro e w1 ⟨rfl, b⟩; have H1 := Lib.hid (HV.out.step b); obtain ⟨x0, x1, x2, x3⟩ := H1.out.cells; obtain ⟨k0, _⟩ := (HT.out _ H1.out.bel).cells HK6.out.1; clear b)
          | (go_at_call 12; (with_reducible refine (CKk.out _).mono ?_); rintro e w2 ⟨rfl, b⟩; have H2 := Lib.hid ((H1.out.step b).step (bal (b0 _) (.cells #[.int .u8 2, .int .i64 0, .string (strOf (kwd t.k)), .int .i32 0] 39))); clear b)
          | (at_builtin; (refine app_rws rfl (.tmp 19) (.tmp 26) rfl (w.heap.size + 1) 0 0 1 1 1 none (some ⟨w2.heap.size, 0, none⟩) [] [kw (kwd t.k)] rfl rfl H2.out.own rfl (RK.out w2) rfl (by decide) H2.out.lt ?_; intro A3 c3 w3 o2 g2; have H3 := Lib.hid (H2.out.app o2 g2); obtain ⟨z0, z1, z2, z3⟩ := H3.out.cells; clear o2 g2)))
        go_ret2
        exact HG.out _ _ _ _ _ H3.out HL.out rfl
end Go.Proofs.YtbkbhlbfkfnljaaGreatDoor
