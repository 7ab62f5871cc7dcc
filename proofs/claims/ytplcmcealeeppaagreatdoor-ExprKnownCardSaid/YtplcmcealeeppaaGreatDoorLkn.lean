/- ExprKnown: its walk. -/
import Derived.Test.YtplcmcealeeppaaGreatDoorM24
import Derived.Deep.RegionHeld3
import Derived.Deep.CutRange
set_option linter.unusedVariables false
set_option linter.unusedSimpArgs false
set_option linter.unusedVariables false
set_option linter.unusedSimpArgs false
namespace Go.Proofs.YtplcmcealeeppaaGreatDoor
open Go Go.RowKit L8 L10

set_option maxRecDepth 100000 in
set_option maxHeartbeats 64000000 in
theorem walkExprKnown (w : World) (h10 : T10 w) (hT : W1.Tab w) :
    Calls Tryz.prog 8 #[] w fun e w' => e = .returned (.bool true) ∧ Below w.heap.size w w' := by
  have HT0 : Hid (W1.Tab (w.alloc (.cells #[.int .u8 1, .int .u8 0, .int .u8 0, .int .i32 1, .string ⟨#[]⟩, .slice none 0 0] 27)) ∧ T10 (w.alloc (.cells #[.int .u8 1, .int .u8 0, .int .u8 0, .int .i32 1, .string ⟨#[]⟩, .slice none 0 0] 27)) ∧ Below w.heap.size w (w.alloc (.cells #[.int .u8 1, .int .u8 0, .int .u8 0, .int .i32 1, .string ⟨#[]⟩, .slice none 0 0] 27)) ∧ (w.alloc (.cells #[.int .u8 1, .int .u8 0, .int .u8 0, .int .i32 1, .string ⟨#[]⟩, .slice none 0 0] 27)).heap.size = w.heap.size + 1) := Lib.hid ⟨hT.below (bal (b0 w) _), h10.below (bal (b0 w) _), bal (b0 w) _, World.size_alloc _ _⟩
  have HV : Hid (S10 (w.alloc (.cells #[.int .u8 1, .int .u8 0, .int .u8 0, .int .i32 1, .string ⟨#[]⟩, .slice none 0 0] 27)) (w.alloc (.cells #[.int .u8 1, .int .u8 0, .int .u8 0, .int .i32 1, .string ⟨#[]⟩, .slice none 0 0] 27))) := Lib.hid (S10.of HT0.out.1 HT0.out.2.1 (b0 _))
  have HO : Hid (∀ w', S10 (w.alloc (.cells #[.int .u8 1, .int .u8 0, .int .u8 0, .int .i32 1, .string ⟨#[]⟩, .slice none 0 0] 27)) w' → w'.cell? ⟨w.heap.size, 0, none⟩ = some (.int .u8 1) ∧ w'.cell? ⟨w.heap.size, 1, none⟩ = some (.int .u8 0) ∧ w'.cell? ⟨w.heap.size, 2, none⟩ = some (.int .u8 0) ∧ w'.cell? ⟨w.heap.size, 3, none⟩ = some (.int .i32 1) ∧ w'.cell? ⟨w.heap.size, 4, none⟩ = some (.string ⟨#[]⟩) ∧ w'.cell? ⟨w.heap.size, 5, none⟩ = some (.slice none 0 0)) := Lib.hid fun X h => box6 ((boxS_new w 27 #[.int .u8 1, .int .u8 0, .int .u8 0, .int .i32 1, .string ⟨#[]⟩, .slice none 0 0]).below h.bel)
  have HB1 := Lib.hid (fun (X : World) => ko1 X)
  have HBa := Lib.hid (fun (X : World) => koa X)
  have HBs := Lib.hid (fun (X : World) (q : Nat) (t : TrR X (some ⟨q, 0, none⟩) 2 [xE, oE]) => kos X t)
  have CN := Lib.hid (fun (s : ByteArray) (W : World) => name_any s W)
  have CR1 := Lib.hid (fun (X : World) (h : S10 (w.alloc (.cells #[.int .u8 1, .int .u8 0, .int .u8 0, .int .i32 1, .string ⟨#[]⟩, .slice none 0 0] 27)) X) => kr1 h)
  have CR5 := Lib.hid (fun (X : World) (h : S10 (w.alloc (.cells #[.int .u8 1, .int .u8 0, .int .u8 0, .int .i32 1, .string ⟨#[]⟩, .slice none 0 0] 27)) X) => kr5 h)
  have CR2 := Lib.hid (fun (X : World) (q : Nat) (h : S10 (w.alloc (.cells #[.int .u8 1, .int .u8 0, .int .u8 0, .int .i32 1, .string ⟨#[]⟩, .slice none 0 0] 27)) X) (t : TrR X (some ⟨q, 0, none⟩) 1 [oE]) => kr2 h t)
  have CR3 := Lib.hid (fun (X : World) (q : Nat) (h : S10 (w.alloc (.cells #[.int .u8 1, .int .u8 0, .int .u8 0, .int .i32 1, .string ⟨#[]⟩, .slice none 0 0] 27)) X) (t : TrR X (some ⟨q, 0, none⟩) 1 [aE]) => kr3 h t)
  have CR4 := Lib.hid (fun (X : World) (q : Nat) (h : S10 (w.alloc (.cells #[.int .u8 1, .int .u8 0, .int .u8 0, .int .i32 1, .string ⟨#[]⟩, .slice none 0 0] 27)) X) (t : TrR X (some ⟨q, 0, none⟩) 1 [sE]) => kr4 h t)
  have CR6 := Lib.hid (fun (X : World) (q : Nat) (h : S10 (w.alloc (.cells #[.int .u8 1, .int .u8 0, .int .u8 0, .int .i32 1, .string ⟨#[]⟩, .slice none 0 0] 27)) X) (t : TrR X (some ⟨q, 0, none⟩) 2 [tE, fE]) => kr6 h t)
  have CR7 := Lib.hid (fun (X : World) (q : Nat) (h : S10 (w.alloc (.cells #[.int .u8 1, .int .u8 0, .int .u8 0, .int .i32 1, .string ⟨#[]⟩, .slice none 0 0] 27)) X) (t : TrR X (some ⟨q, 0, none⟩) 2 [cA, cB]) => kr7 h t)
  have CT1 := Lib.hid (fun (X : World) => kt1 X)
  have CT2 := Lib.hid (fun (X : World) => kt2 X)
  have CT3 := Lib.hid (fun (X : World) => kt3 X)
  have CF1 := Lib.hid (fun (X : World) (h : S10 (w.alloc (.cells #[.int .u8 1, .int .u8 0, .int .u8 0, .int .i32 1, .string ⟨#[]⟩, .slice none 0 0] 27)) X) => kf1 h)
  have CF2 := Lib.hid (fun (X : World) (h : S10 (w.alloc (.cells #[.int .u8 1, .int .u8 0, .int .u8 0, .int .i32 1, .string ⟨#[]⟩, .slice none 0 0] 27)) X) => kf2 h)
  have CF3 := Lib.hid (fun (X : World) (h : S10 (w.alloc (.cells #[.int .u8 1, .int .u8 0, .int .u8 0, .int .i32 1, .string ⟨#[]⟩, .slice none 0 0] 27)) X) => kf3 h)
  have CF4 := Lib.hid (fun (X : World) (h : S10 (w.alloc (.cells #[.int .u8 1, .int .u8 0, .int .u8 0, .int .i32 1, .string ⟨#[]⟩, .slice none 0 0] 27)) X) => kf4 h)
  have CF5 := Lib.hid (fun (X : World) (h : S10 (w.alloc (.cells #[.int .u8 1, .int .u8 0, .int .u8 0, .int .i32 1, .string ⟨#[]⟩, .slice none 0 0] 27)) X) => kf5 h)
  have CF6 := Lib.hid (fun (X : World) (h : S10 (w.alloc (.cells #[.int .u8 1, .int .u8 0, .int .u8 0, .int .i32 1, .string ⟨#[]⟩, .slice none 0 0] 27)) X) => kf6 h)
  have CF7 := Lib.hid (fun (X : World) (h : S10 (w.alloc (.cells #[.int .u8 1, .int .u8 0, .int .u8 0, .int .i32 1, .string ⟨#[]⟩, .slice none 0 0] 27)) X) => kf7 h)
  have HT := Lib.hid (And.intro HT0.out.1 HT0.out.2.1)
  have HCo := Lib.hid (fun (j : Nat) (h : j < 32) => cat_opn h)
  have HCs := Lib.hid (fun (j : Nat) (h : j < 32) => cat_sht h)
  have CD := Lib.hid cat_deep
  have CZ1 := Lib.hid (fun (X : World) (h : S10 (w.alloc (.cells #[.int .u8 1, .int .u8 0, .int .u8 0, .int .i32 1, .string ⟨#[]⟩, .slice none 0 0] 27)) X) => kz1 h)
  have CZ2 := Lib.hid (fun (X : World) (h : S10 (w.alloc (.cells #[.int .u8 1, .int .u8 0, .int .u8 0, .int .i32 1, .string ⟨#[]⟩, .slice none 0 0] 27)) X) => kz2 h)
  have CZ3 := Lib.hid (fun (X : World) (h : S10 (w.alloc (.cells #[.int .u8 1, .int .u8 0, .int .u8 0, .int .i32 1, .string ⟨#[]⟩, .slice none 0 0] 27)) X) => kz3 h)
  have CZ4 := Lib.hid (fun (X : World) (h : S10 (w.alloc (.cells #[.int .u8 1, .int .u8 0, .int .u8 0, .int .i32 1, .string ⟨#[]⟩, .slice none 0 0] 27)) X) => kz4 h)
  have CW0 := Lib.hid (fun (X : World) (h : S10 (w.alloc (.cells #[.int .u8 1, .int .u8 0, .int .u8 0, .int .i32 1, .string ⟨#[]⟩, .slice none 0 0] 27)) X) => kw0 h)
  have CW27 := Lib.hid (fun (X : World) (h : S10 (w.alloc (.cells #[.int .u8 1, .int .u8 0, .int .u8 0, .int .i32 1, .string ⟨#[]⟩, .slice none 0 0] 27)) X) => kw27 h)
  have CW12 := Lib.hid (fun (X : World) (h : S10 (w.alloc (.cells #[.int .u8 1, .int .u8 0, .int .u8 0, .int .i32 1, .string ⟨#[]⟩, .slice none 0 0] 27)) X) => kw12 h)
  have HBi := Lib.hid (fun (X : World) => koi X)
  have CTn := Lib.hid (fun (X : World) (q : Nat) (t : TrR X (some ⟨q, 0, none⟩) 1 [iE]) => kt_names t)
  have CNn := Lib.hid (fun (X : World) (q : Nat) (s : S10 (w.alloc (.cells #[.int .u8 1, .int .u8 0, .int .u8 0, .int .i32 1, .string ⟨#[]⟩, .slice none 0 0] 27)) X) (t : TrR X (some ⟨q, 0, none⟩) 2 [vE, wE]) => kn_names s t)
  have HSn := Lib.hid (fun (X : World) => ks_names X)
  have CTx := Lib.hid (fun (X : World) (B D : Option Addr) (b d : Nat) (h : SS X B b [[118], [105], [119]]) (k : SS X D d [[118], [105], [119]]) => kx_names h k)
  have HBad := Lib.hid (fun (X : World) => bads_new X)
  have CWo := Lib.hid (fun (X : World) (h : S10 (w.alloc (.cells #[.int .u8 1, .int .u8 0, .int .u8 0, .int .i32 1, .string ⟨#[]⟩, .slice none 0 0] 27)) X) => works_any X h.tab h.t10)
  clear hT h10
  go_enter Tryz.func8, Tryz.ntmps8
  go_upto_region 2 with fail
  generalize (w.alloc (.cells #[.int .u8 1, .int .u8 0, .int .u8 0, .int .i32 1, .string ⟨#[]⟩, .slice none 0 0] 27)) = V at *
  go_cut [2] from 25 to 62 (fun t wx => t = .bool true ∧ Hid (S10 V wx))
  case first =>
    have H0 := Lib.hid (HV.out.step (bdrew (b0 V) 1))
    have k0 := HO.out _ HV.out
    have k1 := HO.out _ H0.out
    go_region_held3 (fun w' => w'.cell? ⟨w.heap.size, 0, none⟩ = some (.int .u8 1) ∧ w'.cell? ⟨w.heap.size, 1, none⟩ = some (.int .u8 0) ∧ w'.cell? ⟨w.heap.size, 2, none⟩ = some (.int .u8 0) ∧ w'.cell? ⟨w.heap.size, 3, none⟩ = some (.int .i32 1) ∧ w'.cell? ⟨w.heap.size, 4, none⟩ = some (.string ⟨#[]⟩) ∧ w'.cell? ⟨w.heap.size, 5, none⟩ = some (.slice none 0 0))
    (first | (exact k0) | (exact k1) | (exact HO.out _ H1.out) | (exact HO.out _ H2.out) | (exact HO.out _ H3.out) | (exact HO.out _ H4.out) | (exact HO.out _ H5.out) | (exact HO.out _ H6.out) | (exact HO.out _ H7.out) | (exact HO.out _ H8.out) | (exact HO.out _ H9.out) | (exact HO.out _ H10.out) | (exact HO.out _ H11.out) | (exact HO.out _ H12.out) | (exact HO.out _ H13.out) | (exact HO.out _ (H2.out.step (bal (b0 _) _))) | (exact HO.out _ (H4.out.step (bal (b0 _) _))) | (exact HO.out _ (H7.out.step (bal (b0 _) _))) | go_keep)
    (first
    | (go_at_call 31; (with_reducible refine (CN.out ⟨#[120]⟩ V.drew).mono ?_); rintro e v1 ⟨rfl, g⟩; have H1 := Lib.hid (H0.out.step g); clear g)
    | (go_at_call 30; (with_reducible refine (CR1.out _ H1.out).mono ?_); rintro e v2 ⟨rfl, g⟩; have H2 := Lib.hid (H1.out.step g); clear g)
    | (go_at_call 30; (with_reducible refine (CR2.out _ _ (H2.out.step (bal (b0 _) (.cells #[.int .u8 1, .int .u8 0, .int .u8 0, .int .i32 1, .string ⟨#[]⟩, .slice none 0 0] 27))) (HB1.out v2)).mono ?_); rintro e v3 ⟨rfl, g⟩; have H3 := Lib.hid ((H2.out.step (bal (b0 _) (.cells #[.int .u8 1, .int .u8 0, .int .u8 0, .int .i32 1, .string ⟨#[]⟩, .slice none 0 0] 27))).step g); clear g)
    | (go_at_call 31; (with_reducible refine (CN.out ⟨#[97]⟩ v3).mono ?_); rintro e v4 ⟨rfl, g⟩; have H4 := Lib.hid (H3.out.step g); clear g)
    | (go_at_call 30; (with_reducible refine (CR3.out _ _ (H4.out.step (bal (b0 _) (.cells #[.int .u8 4, .int .u8 0, .int .u8 0, .int .i32 0, .string ⟨#[97]⟩, .slice none 0 0] 27))) (HBa.out v4)).mono ?_); rintro e v5 ⟨rfl, g⟩; have H5 := Lib.hid ((H4.out.step (bal (b0 _) (.cells #[.int .u8 4, .int .u8 0, .int .u8 0, .int .i32 0, .string ⟨#[97]⟩, .slice none 0 0] 27))).step g); clear g)
    | (go_at_call 31; (with_reducible refine (CN.out ⟨#[120]⟩ v5).mono ?_); rintro e v6 ⟨rfl, g⟩; have H6 := Lib.hid (H5.out.step g); clear g)
    | (go_at_call 32; (with_reducible refine (CT1.out v6).mono ?_); rintro e v7 ⟨q1, rfl, t, g⟩; have H7 := Lib.hid (H6.out.step g); have T7 := Lib.hid t; clear g t)
    | (go_at_call 30; (with_reducible refine (CR4.out _ _ (H7.out.step (bal (b0 _) (.cells #[.int .u8 7, .int .u8 1, .int .u8 0, .int .i32 0, .string ⟨#[]⟩, .slice (some ⟨q1, 0, none⟩) 2 2] 27))) (HBs.out v7 q1 T7.out)).mono ?_); rintro e v8 ⟨rfl, g⟩; have H8 := Lib.hid ((H7.out.step (bal (b0 _) (.cells #[.int .u8 7, .int .u8 1, .int .u8 0, .int .i32 0, .string ⟨#[]⟩, .slice (some ⟨q1, 0, none⟩) 2 2] 27))).step g); clear g)
    | (go_at_call 30; (with_reducible refine (CR5.out _ H8.out).mono ?_); rintro e v9 ⟨rfl, g⟩; have H9 := Lib.hid (H8.out.step g); clear g)
    | (go_at_call 32; (with_reducible refine (CT2.out v9).mono ?_); rintro e v10 ⟨q2, rfl, t, g⟩; have H10 := Lib.hid (H9.out.step g); have T10' := Lib.hid t; clear g t)
    | (go_at_call 30; (with_reducible refine (CR6.out _ _ H10.out T10'.out).mono ?_); rintro e v11 ⟨rfl, g⟩; have H11 := Lib.hid (H10.out.step g); clear g)
    | (go_at_call 32; (with_reducible refine (CT3.out v11).mono ?_); rintro e v12 ⟨q3, rfl, t, g⟩; have H12 := Lib.hid (H11.out.step g); have T12 := Lib.hid t; clear g t)
    | (go_at_call 30; (with_reducible refine (CR7.out _ _ H12.out T12.out).mono ?_); rintro e v13 ⟨rfl, g⟩; have H13 := Lib.hid (H12.out.step g); clear g))
    all_goals (
      go_wp2_with fail
      go_meet
      exact ⟨rfl, H13⟩)
  case rest =>
    obtain ⟨rfl, H0⟩ := hcut
    clear CR1 CR2 CR3 CR4 CR5 CR6 CR7 CT1 CT2 CT3 HBs HBa
    go_wp2_with (first
      | (go_at_call 33; (with_reducible refine (CF1.out _ H0.out).mono ?_); rintro e v1 ⟨rfl, g⟩; have H1 := Lib.hid (H0.out.step g); clear g)
      | (go_at_call 33; (with_reducible refine (CF2.out _ H1.out).mono ?_); rintro e v2 ⟨rfl, g⟩; have H2 := Lib.hid (H1.out.step g); clear g)
      | (go_at_call 33; (with_reducible refine (CF3.out _ H2.out).mono ?_); rintro e v3 ⟨rfl, g⟩; have H3 := Lib.hid (H2.out.step g); clear g)
      | (go_at_call 33; (with_reducible refine (CF4.out _ H3.out).mono ?_); rintro e v4 ⟨rfl, g⟩; have H4 := Lib.hid (H3.out.step g); clear g)
      | (go_at_call 33; (with_reducible refine (CF5.out _ H4.out).mono ?_); rintro e v5 ⟨rfl, g⟩; have H5 := Lib.hid (H4.out.step g); clear g)
      | (go_at_call 33; (with_reducible refine (CF6.out _ H5.out).mono ?_); rintro e v6 ⟨rfl, g⟩; have H6 := Lib.hid (H5.out.step g); clear g)
      | (go_at_call 33; (with_reducible refine (CF7.out _ H6.out).mono ?_); rintro e v7 ⟨rfl, g⟩; have H7 := Lib.hid (H6.out.step g); clear g)
      | (go_at_call 31; (with_reducible refine (CN.out ⟨#[97]⟩ _).mono ?_); rintro e v8 ⟨rfl, g⟩; have H8 := Lib.hid (H7.out.step g); clear g))
    have HP : Hid (PN V (v8.alloc (.cells #[.int .u8 4, .int .u8 0, .int .u8 0, .int .i32 0, .string ⟨#[97]⟩, .slice none 0 0] 27)) aE v8.heap.size) := Lib.hid (PN.leaf (e := aE) H8.out rfl ok_a.1)
    clear H0 H1 H2 H3 H4 H5 H6 H7 H8 CF1 CF2 CF3 CF4 CF5 CF6 CF7
    generalize v8.heap.size = K at *
    generalize v8.alloc (.cells #[.int .u8 4, .int .u8 0, .int .u8 0, .int .i32 0, .string ⟨#[97]⟩, .slice none 0 0] 27) = Z8 at *
    go_loopw [4, 5, 7] (fun o s i wr => ∃ j : Nat, j ≤ 32 ∧ o = .string (strOf (opn j)) ∧ s = .string (strOf (sht j)) ∧ i = .int .i64 (j : Int) ∧ Hid (PN V wr (deepE (j - 1)) K)) (fun _ _ i _ => 32 - (intOf i).toNat)
    case atStart => exact ⟨0, by omega, rfl, rfl, rfl, HP⟩
    case round =>
      obtain ⟨j, hj, rfl, rfl, rfl, H⟩ := hrel
      clear HP
      have hj0 : (0 : Int) ≤ (j : Int) := by omega
      by_cases hlt : (j : Int) < 32
      · have c1 := HCo.out j (by omega)
        have c2 := HCs.out j (by omega)
        by_cases hz : (0 : Int) < (j : Int)
        · obtain ⟨A, c, hb, ht⟩ := H.out.b
          have HB := Lib.hid (And.intro hb ht)
          clear hb ht
          obtain ⟨x0, x1, x2, x3, x4, x5⟩ := box6 HB.out.1
          obtain ⟨y0, y1, y2, y3, y4, y5⟩ := box6 (HB.out.1.alloc (.cells (exC (deepE (j - 1)) A (deepE (j - 1)).l.length c) 27))
          obtain ⟨u0, u1, u2, u3, u4, u5⟩ := box6f (HB.out.1.alloc (.cells (exC (deepE (j - 1)) A (deepE (j - 1)).l.length c) 27))
          have HW := Lib.hid (PN.wrap HT.out H.out.s H.out.hK H.out.ok HB.out.1 HB.out.2)
          have he : Hid (deepE (j + 1 - 1) = .mk 6 25 0 0 [] [deepE (j - 1)]) := Lib.hid (by obtain ⟨i, rfl⟩ : ∃ i, j = i + 1 := ⟨j - 1, by omega⟩; rfl)
          dsimp only [exC] at *
          generalize deepE (j - 1) = E at *
          go_wp2
          go_roundw
          case rel => exact ⟨j + 1, by omega, rfl, rfl, by go_num, by rw [he.out]; exact HW⟩
          case measure => simp [intOf]; omega
        · obtain rfl : j = 0 := by omega
          go_wp2
          go_roundw
          case rel => exact ⟨1, by omega, rfl, rfl, by go_num, H⟩
          case measure => simp [intOf]
      · obtain rfl : j = 32 := by omega
        clear HCo HCs
        obtain ⟨A6, c6, hb, ht⟩ := H.out.b
        have X0 : Hid (PX V _ (deepE (32 - 1)) A6 (deepE (32 - 1)).l.length c6 K) := Lib.hid ⟨H.out.s, hb, ht.tr⟩
        have hM : Hid (mayE (deepE (32 - 1)) = true ∧ mayE (.mk 6 25 0 0 [] [deepE (32 - 1)]) = false ∧ szE (.mk 6 25 0 0 [] [deepE (32 - 1)]) = 33) := Lib.hid deep_may
        have hok := Lib.hid H.out.ok
        clear hb ht H
        generalize deepE (32 - 1) = E at *
        obtain ⟨d1, d2, d3, d4, d5, d6, d7⟩ := CD.out
        have CM6 := Lib.hid (fun (X : World) (h : PX V X E A6 E.l.length c6 K) => h.may rfl hok.out hM.out.1)
        have HPm := Lib.hid (fun (X : World) (h : PX V X E A6 E.l.length c6 K) => h.more rfl hok.out)
        have CM9 : Hid (∀ (X : World) (q K9 : Nat), PX V X (.mk 6 25 0 0 [] [E]) (some ⟨q, 0, none⟩) 1 1 K9 → Calls Tryz.prog 12 #[.agg #[.int .u8 6, .int .u8 25, .int .u8 0, .int .i32 0, .string ⟨#[]⟩, .slice (some ⟨q, 0, none⟩) 1 1]] X fun en w' => en = .returned (.bool false) ∧ Below X.heap.size X w') := Lib.hid fun X q K9 h => h.may rfl (ok_mk (by decide) (by decide) (by decide) (by decide) (by decide) (by decide)) hM.out.2.1
        have CZ9 : Hid (∀ (X : World) (q K9 : Nat), PX V X (.mk 6 25 0 0 [] [E]) (some ⟨q, 0, none⟩) 1 1 K9 → Calls Tryz.prog 14 #[.agg #[.int .u8 6, .int .u8 25, .int .u8 0, .int .i32 0, .string ⟨#[]⟩, .slice (some ⟨q, 0, none⟩) 1 1]] X fun en w' => en = .returned (.int .i64 33) ∧ Below X.heap.size X w') := Lib.hid fun X q K9 h => h.size rfl (ok_mk (by decide) (by decide) (by decide) (by decide) (by decide) (by decide)) hM.out.2.2 (by decide)
        have HX6 := Lib.hid (fun (X : World) (h : PX V X E A6 E.l.length c6 K) => h.cells)
        have HX9 : Hid (∀ (X : World) (q K9 : Nat), PX V X (.mk 6 25 0 0 [] [E]) (some ⟨q, 0, none⟩) 1 1 K9 → X.cell? ⟨K9, 0, none⟩ = some (.int .u8 6) ∧ X.cell? ⟨K9, 1, none⟩ = some (.int .u8 25) ∧ X.cell? ⟨K9, 2, none⟩ = some (.int .u8 0) ∧ X.cell? ⟨K9, 3, none⟩ = some (.int .i32 0) ∧ X.cell? ⟨K9, 4, none⟩ = some (.string ⟨#[]⟩) ∧ X.cell? ⟨K9, 5, none⟩ = some (.slice (some ⟨q, 0, none⟩) 1 1)) := Lib.hid fun X q K9 h => h.cells
        clear hM hok CD
        dsimp only [exC] at *
        generalize strOf (opn 32 ++ [97] ++ sht 32) = Q1 at *
        generalize strOf (opn 32 ++ [40]) = Q2 at *
        generalize strOf (opn 32 ++ [40, 97, 41] ++ sht 32) = Q3 at *
        generalize strOf (opn 32 ++ [118, 91, 97, 93] ++ sht 32) = Q4 at *
        go_wp2_with (first
          | (go_at_call 31; (with_reducible refine (CN.out ⟨#[97]⟩ _).mono ?_); rintro e v9 ⟨rfl, g⟩; have X1 := Lib.hid (X0.out.step g); clear g)
          | (go_at_call 30; (with_reducible refine (CZ1.out _ X1.out.s).mono ?_); rintro e v10 ⟨rfl, g⟩; have X2 := Lib.hid (X1.out.step g); clear g)
          | (go_at_call 33; (with_reducible refine (CZ2.out _ X2.out.s).mono ?_); rintro e v11 ⟨rfl, g⟩; have X3 := Lib.hid (X2.out.step g); clear g)
          | (go_at_call 33; (with_reducible refine (CZ3.out _ X3.out.s).mono ?_); rintro e v12 ⟨rfl, g⟩; have X4 := Lib.hid (X3.out.step g); clear g)
          | (go_at_call 33; (with_reducible refine (CZ4.out _ X4.out.s).mono ?_); rintro e v13 ⟨rfl, g⟩; have X5 := Lib.hid (X4.out.step g); clear g; obtain ⟨x0, x1, x2, x3, x4, x5⟩ := HX6.out _ X5.out; have P9 := Lib.hid (HPm.out v13 X5.out); have X6 := Lib.hid ((X5.out.step (bal (b0 v13) (.cells #[.int .u8 (E.k : Int), .int .u8 (E.o : Int), .int .u8 (E.t : Int), .int .i32 E.n, .string (strOf E.s), .slice A6 E.l.length c6] 27))).step (bal (b0 _) (.cells #[.int .u8 6, .int .u8 25, .int .u8 0, .int .i32 0, .string ⟨#[]⟩, .slice (some ⟨v13.heap.size, 0, none⟩) 1 1] 27))); obtain ⟨y0, y1, y2, y3, y4, y5⟩ := HX6.out _ X6.out)
          | (go_at_call 12; (with_reducible refine (CM6.out _ X6.out).mono ?_); rintro e v14 ⟨rfl, g⟩; have P10 := Lib.hid (P9.out.step g); clear g; obtain ⟨z0, z1, z2, z3, z4, z5⟩ := HX9.out _ _ _ P10.out)
          | (go_at_call 12; (with_reducible refine (CM9.out _ _ _ P10.out).mono ?_); rintro e v15 ⟨rfl, g⟩; have P11 := Lib.hid (P10.out.step g); clear g; obtain ⟨a0, a1, a2, a3, a4, a5⟩ := HX9.out _ _ _ P11.out)
          | (go_at_call 14; (with_reducible refine (CZ9.out _ _ _ P11.out).mono ?_); rintro e v16 ⟨rfl, g⟩; have P12 := Lib.hid (P11.out.step g); clear g; obtain ⟨bb0, bb1, bb2, bb3, bb4, bb5⟩ := HO.out _ P12.out.s))
        have HPw : Hid (PN V (v16.alloc (.cells #[.int .u8 1, .int .u8 0, .int .u8 0, .int .i32 1, .string ⟨#[]⟩, .slice none 0 0] 27)) oE v16.heap.size) := Lib.hid (PN.leaf (e := oE) P12.out.s rfl ok_a.2.2.2)
        clear X0 X1 X2 X3 X4 X5 X6 P9 P10 P11 P12 CM6 HPm CM9 CZ9 HX6 HX9 CZ1 CZ2 CZ3 CZ4 d1 d2 d3 d4 d5 d6 d7
        generalize v16.heap.size = K1 at *
        generalize v16.alloc (.cells #[.int .u8 1, .int .u8 0, .int .u8 0, .int .i32 1, .string ⟨#[]⟩, .slice none 0 0] 27) = Z16 at *
        go_loopw [12] (fun i wr => ∃ j : Nat, j ≤ 7 ∧ i = .int .i64 (j : Int) ∧ Hid (PN V wr (wideE j) K1)) (fun i _ => 7 - (intOf i).toNat)
        case atStart => exact ⟨0, by omega, rfl, HPw⟩
        case round =>
          obtain ⟨j, hj, rfl, H⟩ := hrel
          have hj0 : (0 : Int) ≤ (j : Int) := by omega
          by_cases hlt : (j : Int) < 7
          · obtain ⟨A, c, hb, ht⟩ := H.out.b
            have HB := Lib.hid (And.intro hb ht)
            clear hb ht
            obtain ⟨x0, x1, x2, x3, x4, x5⟩ := box6 HB.out.1
            have CT := Lib.hid (PN.twice H.out.s HB.out.1 rfl H.out.ok HB.out.2)
            have HS2 := Lib.hid (fun (X : World) (q : Nat) b (t : TrN X (fun k => k ≠ K1) (some ⟨q, 0, none⟩) 2 [wideE j, wideE j]) => PN.put2 HT.out H.out b t)
            have HBl := Lib.hid (fun (X : World) b => box6 (HB.out.1.below (Y := X) b))
            have HBf := Lib.hid (fun (X : World) b => box6f (HB.out.1.below (Y := X) b))
            have he : Hid (wideE (j + 1) = .mk 7 6 0 0 [] [wideE j, wideE j]) := Lib.hid rfl
            dsimp only [exC] at *
            generalize wideE j = E at *
            go_wp2_with (first
              | (go_at_call 32; (with_reducible refine CT.out.mono ?_); rintro e v17 ⟨q, rfl, t, g⟩; have HW := Lib.hid (HS2.out _ _ g t); obtain ⟨y0, y1, y2, y3, y4, y5⟩ := HBl.out _ g; obtain ⟨u0, u1, u2, u3, u4, u5⟩ := HBf.out _ g; clear g t))
            go_roundw
            case rel => exact ⟨j + 1, by omega, by go_num, by rw [he.out]; exact HW⟩
            case measure => simp [intOf]; omega
          · obtain rfl : j = 7 := by omega
            obtain ⟨A7, c7, hb, ht⟩ := H.out.b
            have X0 : Hid (PX V _ (wideE 7) A7 (wideE 7).l.length c7 K1) := Lib.hid ⟨H.out.s, hb, ht.tr⟩
            have hM : Hid (mayE (wideE 7) = true ∧ szE (wideE 7) = 255 ∧ mayE (.mk 7 6 0 0 [] [wideE 7, mE]) = false ∧ szE (.mk 7 6 0 0 [] [wideE 7, mE]) = 258) := Lib.hid wide_may
            have hok := Lib.hid H.out.ok
            clear hb ht H
            generalize wideE 7 = E at *
            have CM7 := Lib.hid (fun (X : World) (h : PX V X E A7 E.l.length c7 K1) => h.may rfl hok.out hM.out.1)
            have CZ7 : Hid (∀ X : World, PX V X E A7 E.l.length c7 K1 → Calls Tryz.prog 14 #[.agg #[.int .u8 (E.k : Int), .int .u8 (E.o : Int), .int .u8 (E.t : Int), .int .i32 E.n, .string (strOf E.s), .slice A7 E.l.length c7]] X fun en w' => en = .returned (.int .i64 255) ∧ Below X.heap.size X w') := Lib.hid (fun (X : World) (h : PX V X E A7 E.l.length c7 K1) => h.size rfl hok.out hM.out.2.1 (by decide))
            have CTf : Hid (∀ (X : World) (q : Nat), PX V X E A7 E.l.length c7 K1 → TrR X (some ⟨q, 0, none⟩) 1 [oE] → Calls Tryz.prog 32 #[.int .u8 6, .agg #[.int .u8 (E.k : Int), .int .u8 (E.o : Int), .int .u8 (E.t : Int), .int .i32 E.n, .string (strOf E.s), .slice A7 E.l.length c7], .agg #[.int .u8 6, .int .u8 23, .int .u8 0, .int .i32 0, .string ⟨#[]⟩, .slice (some ⟨q, 0, none⟩) 1 1]] X fun en w' => ∃ q, en = .returned (.agg #[.int .u8 7, .int .u8 6, .int .u8 0, .int .i32 0, .string ⟨#[]⟩, .slice (some ⟨q, 0, none⟩) 2 2]) ∧ TrR w' (some ⟨q, 0, none⟩) 2 [E, mE] ∧ Below X.heap.size X w') := Lib.hid fun X q h t => kt_full h rfl hok.out t
            have CM13 : Hid (∀ (X : World) (q K9 : Nat), PX V X (.mk 7 6 0 0 [] [E, mE]) (some ⟨q, 0, none⟩) 2 2 K9 → Calls Tryz.prog 12 #[.agg #[.int .u8 7, .int .u8 6, .int .u8 0, .int .i32 0, .string ⟨#[]⟩, .slice (some ⟨q, 0, none⟩) 2 2]] X fun en w' => en = .returned (.bool false) ∧ Below X.heap.size X w') := Lib.hid fun X q K9 h => h.may rfl (ok_mk (by decide) (by decide) (by decide) (by decide) (by decide) (by decide)) hM.out.2.2.1
            have CZ13 : Hid (∀ (X : World) (q K9 : Nat), PX V X (.mk 7 6 0 0 [] [E, mE]) (some ⟨q, 0, none⟩) 2 2 K9 → Calls Tryz.prog 14 #[.agg #[.int .u8 7, .int .u8 6, .int .u8 0, .int .i32 0, .string ⟨#[]⟩, .slice (some ⟨q, 0, none⟩) 2 2]] X fun en w' => en = .returned (.int .i64 258) ∧ Below X.heap.size X w') := Lib.hid fun X q K9 h => h.size rfl (ok_mk (by decide) (by decide) (by decide) (by decide) (by decide) (by decide)) hM.out.2.2.2 (by decide)
            have HX7 := Lib.hid (fun (X : World) (h : PX V X E A7 E.l.length c7 K1) => h.cells)
            have HX13 : Hid (∀ (X : World) (q K9 : Nat), PX V X (.mk 7 6 0 0 [] [E, mE]) (some ⟨q, 0, none⟩) 2 2 K9 → X.cell? ⟨K9, 0, none⟩ = some (.int .u8 7) ∧ X.cell? ⟨K9, 1, none⟩ = some (.int .u8 6) ∧ X.cell? ⟨K9, 2, none⟩ = some (.int .u8 0) ∧ X.cell? ⟨K9, 3, none⟩ = some (.int .i32 0) ∧ X.cell? ⟨K9, 4, none⟩ = some (.string ⟨#[]⟩) ∧ X.cell? ⟨K9, 5, none⟩ = some (.slice (some ⟨q, 0, none⟩) 2 2)) := Lib.hid fun X q K9 h => h.cells
            have HNf : Hid (∀ (X : World) (q : Nat), S10 V X → TrR X (some ⟨q, 0, none⟩) 2 [E, mE] → PX V (X.alloc (.cells #[.int .u8 7, .int .u8 6, .int .u8 0, .int .i32 0, .string ⟨#[]⟩, .slice (some ⟨q, 0, none⟩) 2 2] 27)) (.mk 7 6 0 0 [] [E, mE]) (some ⟨q, 0, none⟩) 2 2 X.heap.size) := Lib.hid fun X q s t => PX.new (e := (.mk 7 6 0 0 [] [E, mE])) (n := 2) s t
            clear hM hok
            dsimp only [exC] at *
            obtain ⟨x0, x1, x2, x3, x4, x5⟩ := HX7.out _ X0.out
            obtain ⟨y0, y1, y2, y3, y4, y5⟩ := HO.out _ X0.out.s
            go_wp2_with (first
              | (go_at_call 32; (with_reducible refine (CTf.out _ _ (X0.out.step (bal (b0 _) (.cells #[.int .u8 1, .int .u8 0, .int .u8 0, .int .i32 1, .string ⟨#[]⟩, .slice none 0 0] 27))) (HB1.out _)).mono ?_); rintro e v17 ⟨q, rfl, t, g⟩; have X1 := Lib.hid ((X0.out.step (bal (b0 _) (.cells #[.int .u8 1, .int .u8 0, .int .u8 0, .int .i32 1, .string ⟨#[]⟩, .slice none 0 0] 27))).step g); have F1 := Lib.hid (HNf.out v17 q X1.out.s t); have X2 := Lib.hid (X1.out.step (bal (b0 v17) (.cells #[.int .u8 7, .int .u8 6, .int .u8 0, .int .i32 0, .string ⟨#[]⟩, .slice (some ⟨q, 0, none⟩) 2 2] 27))); clear g t; obtain ⟨z0, z1, z2, z3, z4, z5⟩ := HX7.out _ X2.out)
              | (go_at_call 12; (with_reducible refine (CM7.out _ X2.out).mono ?_); rintro e v18 ⟨rfl, g⟩; have X3 := Lib.hid (X2.out.step g); have F3 := Lib.hid (F1.out.step g); clear g; obtain ⟨a0, a1, a2, a3, a4, a5⟩ := HX7.out _ X3.out)
              | (go_at_call 14; (with_reducible refine (CZ7.out _ X3.out).mono ?_); rintro e v19 ⟨rfl, g⟩; have F4 := Lib.hid (F3.out.step g); clear g; obtain ⟨bb0, bb1, bb2, bb3, bb4, bb5⟩ := HX13.out _ _ _ F4.out)
              | (go_at_call 12; (with_reducible refine (CM13.out _ _ _ F4.out).mono ?_); rintro e v20 ⟨rfl, g⟩; have F5 := Lib.hid (F4.out.step g); clear g; obtain ⟨c0, c1, c2, c3, c4, c5⟩ := HX13.out _ _ _ F5.out)
              | (go_at_call 14; (with_reducible refine (CZ13.out _ _ _ F5.out).mono ?_); rintro e v21 ⟨rfl, g⟩; have F6 := Lib.hid (F5.out.step g); clear g; obtain ⟨k0, k1, k2, k3, k4, k5⟩ := HO.out _ F6.out.s; obtain ⟨l0, l1, l2, l3, l4, l5⟩ := HO.out _ (F6.out.s.step (bal (b0 v21) (.cells #[.int .u8 1, .int .u8 0, .int .u8 0, .int .i32 1, .string ⟨#[]⟩, .slice none 0 0] 27))); obtain ⟨m0, m1, m2, m3, m4, m5⟩ := HO.out _ ((F6.out.s.step (bal (b0 v21) (.cells #[.int .u8 1, .int .u8 0, .int .u8 0, .int .i32 1, .string ⟨#[]⟩, .slice none 0 0] 27))).step (bal (b0 _) (.cells #[.int .u8 1, .int .u8 0, .int .u8 0, .int .i32 1, .string ⟨#[]⟩, .slice none 0 0, .int .u8 1, .int .u8 0, .int .u8 0, .int .i32 1, .string ⟨#[]⟩, .slice none 0 0] 27))); obtain ⟨n0, n1, n2, n3, n4, n5⟩ := HO.out _ (((F6.out.s.step (bal (b0 v21) (.cells #[.int .u8 1, .int .u8 0, .int .u8 0, .int .i32 1, .string ⟨#[]⟩, .slice none 0 0] 27))).step (bal (b0 _) (.cells #[.int .u8 1, .int .u8 0, .int .u8 0, .int .i32 1, .string ⟨#[]⟩, .slice none 0 0, .int .u8 1, .int .u8 0, .int .u8 0, .int .i32 1, .string ⟨#[]⟩, .slice none 0 0] 27))).step (bal (b0 _) (.cells #[.int .u8 1, .int .u8 0, .int .u8 0, .int .i32 1, .string ⟨#[]⟩, .slice none 0 0] 27)))))
            have HB0 : Hid (S10 V (((((v21.alloc (.cells #[.int .u8 1, .int .u8 0, .int .u8 0, .int .i32 1, .string ⟨#[]⟩, .slice none 0 0] 27)).alloc (.cells #[.int .u8 1, .int .u8 0, .int .u8 0, .int .i32 1, .string ⟨#[]⟩, .slice none 0 0, .int .u8 1, .int .u8 0, .int .u8 0, .int .i32 1, .string ⟨#[]⟩, .slice none 0 0] 27)).alloc (.cells #[.int .u8 1, .int .u8 0, .int .u8 0, .int .i32 1, .string ⟨#[]⟩, .slice none 0 0] 27)).alloc (.cells #[.int .u8 1, .int .u8 0, .int .u8 0, .int .i32 1, .string ⟨#[]⟩, .slice none 0 0] 27)).alloc (.cells #[.int .u8 0, .int .u8 0, .int .u8 0, .int .i32 0, .string ⟨#[]⟩, .slice none 0 0, .int .u8 4, .int .u8 0, .int .u8 0, .int .i32 0, .string ⟨#[]⟩, .slice none 0 0, .int .u8 4, .int .u8 0, .int .u8 0, .int .i32 0, .string ⟨#[83, 69, 81]⟩, .slice none 0 0, .int .u8 2, .int .u8 0, .int .u8 0, .int .i32 256, .string ⟨#[]⟩, .slice none 0 0, .int .u8 3, .int .u8 0, .int .u8 0, .int .i32 2, .string ⟨#[]⟩, .slice none 0 0, .int .u8 1, .int .u8 0, .int .u8 0, .int .i32 0, .string ⟨#[97]⟩, .slice none 0 0, .int .u8 5, .int .u8 0, .int .u8 0, .int .i32 0, .string ⟨#[118]⟩, .slice none 0 0, .int .u8 6, .int .u8 2, .int .u8 0, .int .i32 0, .string ⟨#[]⟩, .slice (some ⟨v21.heap.size, 0, none⟩) 1 1, .int .u8 7, .int .u8 26, .int .u8 0, .int .i32 0, .string ⟨#[]⟩, .slice (some ⟨v21.heap.size + 1, 0, none⟩) 2 2, .int .u8 8, .int .u8 0, .int .u8 4, .int .i32 0, .string ⟨#[]⟩, .slice (some ⟨v21.heap.size + 1 + 1, 0, none⟩) 1 1, .int .u8 9, .int .u8 0, .int .u8 0, .int .i32 0, .string ⟨#[118]⟩, .slice (some ⟨v21.heap.size + 1 + 1 + 1, 0, none⟩) 1 1, .int .u8 99, .int .u8 0, .int .u8 0, .int .i32 0, .string ⟨#[]⟩, .slice none 0 0] 27)) ∧ TrR (((((v21.alloc (.cells #[.int .u8 1, .int .u8 0, .int .u8 0, .int .i32 1, .string ⟨#[]⟩, .slice none 0 0] 27)).alloc (.cells #[.int .u8 1, .int .u8 0, .int .u8 0, .int .i32 1, .string ⟨#[]⟩, .slice none 0 0, .int .u8 1, .int .u8 0, .int .u8 0, .int .i32 1, .string ⟨#[]⟩, .slice none 0 0] 27)).alloc (.cells #[.int .u8 1, .int .u8 0, .int .u8 0, .int .i32 1, .string ⟨#[]⟩, .slice none 0 0] 27)).alloc (.cells #[.int .u8 1, .int .u8 0, .int .u8 0, .int .i32 1, .string ⟨#[]⟩, .slice none 0 0] 27)).alloc (.cells #[.int .u8 0, .int .u8 0, .int .u8 0, .int .i32 0, .string ⟨#[]⟩, .slice none 0 0, .int .u8 4, .int .u8 0, .int .u8 0, .int .i32 0, .string ⟨#[]⟩, .slice none 0 0, .int .u8 4, .int .u8 0, .int .u8 0, .int .i32 0, .string ⟨#[83, 69, 81]⟩, .slice none 0 0, .int .u8 2, .int .u8 0, .int .u8 0, .int .i32 256, .string ⟨#[]⟩, .slice none 0 0, .int .u8 3, .int .u8 0, .int .u8 0, .int .i32 2, .string ⟨#[]⟩, .slice none 0 0, .int .u8 1, .int .u8 0, .int .u8 0, .int .i32 0, .string ⟨#[97]⟩, .slice none 0 0, .int .u8 5, .int .u8 0, .int .u8 0, .int .i32 0, .string ⟨#[118]⟩, .slice none 0 0, .int .u8 6, .int .u8 2, .int .u8 0, .int .i32 0, .string ⟨#[]⟩, .slice (some ⟨v21.heap.size, 0, none⟩) 1 1, .int .u8 7, .int .u8 26, .int .u8 0, .int .i32 0, .string ⟨#[]⟩, .slice (some ⟨v21.heap.size + 1, 0, none⟩) 2 2, .int .u8 8, .int .u8 0, .int .u8 4, .int .i32 0, .string ⟨#[]⟩, .slice (some ⟨v21.heap.size + 1 + 1, 0, none⟩) 1 1, .int .u8 9, .int .u8 0, .int .u8 0, .int .i32 0, .string ⟨#[118]⟩, .slice (some ⟨v21.heap.size + 1 + 1 + 1, 0, none⟩) 1 1, .int .u8 99, .int .u8 0, .int .u8 0, .int .i32 0, .string ⟨#[]⟩, .slice none 0 0] 27)) (some ⟨v21.heap.size + 1 + 1 + 1 + 1, 0, none⟩) 12 badL) := Lib.hid ⟨((((F6.out.s.step (bal (b0 v21) (.cells #[.int .u8 1, .int .u8 0, .int .u8 0, .int .i32 1, .string ⟨#[]⟩, .slice none 0 0] 27))).step (bal (b0 _) (.cells #[.int .u8 1, .int .u8 0, .int .u8 0, .int .i32 1, .string ⟨#[]⟩, .slice none 0 0, .int .u8 1, .int .u8 0, .int .u8 0, .int .i32 1, .string ⟨#[]⟩, .slice none 0 0] 27))).step (bal (b0 _) (.cells #[.int .u8 1, .int .u8 0, .int .u8 0, .int .i32 1, .string ⟨#[]⟩, .slice none 0 0] 27))).step (bal (b0 _) (.cells #[.int .u8 1, .int .u8 0, .int .u8 0, .int .i32 1, .string ⟨#[]⟩, .slice none 0 0] 27))).step (bal (b0 _) (.cells #[.int .u8 0, .int .u8 0, .int .u8 0, .int .i32 0, .string ⟨#[]⟩, .slice none 0 0, .int .u8 4, .int .u8 0, .int .u8 0, .int .i32 0, .string ⟨#[]⟩, .slice none 0 0, .int .u8 4, .int .u8 0, .int .u8 0, .int .i32 0, .string ⟨#[83, 69, 81]⟩, .slice none 0 0, .int .u8 2, .int .u8 0, .int .u8 0, .int .i32 256, .string ⟨#[]⟩, .slice none 0 0, .int .u8 3, .int .u8 0, .int .u8 0, .int .i32 2, .string ⟨#[]⟩, .slice none 0 0, .int .u8 1, .int .u8 0, .int .u8 0, .int .i32 0, .string ⟨#[97]⟩, .slice none 0 0, .int .u8 5, .int .u8 0, .int .u8 0, .int .i32 0, .string ⟨#[118]⟩, .slice none 0 0, .int .u8 6, .int .u8 2, .int .u8 0, .int .i32 0, .string ⟨#[]⟩, .slice (some ⟨v21.heap.size, 0, none⟩) 1 1, .int .u8 7, .int .u8 26, .int .u8 0, .int .i32 0, .string ⟨#[]⟩, .slice (some ⟨v21.heap.size + 1, 0, none⟩) 2 2, .int .u8 8, .int .u8 0, .int .u8 4, .int .i32 0, .string ⟨#[]⟩, .slice (some ⟨v21.heap.size + 1 + 1, 0, none⟩) 1 1, .int .u8 9, .int .u8 0, .int .u8 0, .int .i32 0, .string ⟨#[118]⟩, .slice (some ⟨v21.heap.size + 1 + 1 + 1, 0, none⟩) 1 1, .int .u8 99, .int .u8 0, .int .u8 0, .int .i32 0, .string ⟨#[]⟩, .slice none 0 0] 27)), HBad.out v21⟩
            clear HBad X0 X1 X2 X3 F1 F3 F4 F5 F6 CM7 CZ7 CTf CM13 CZ13 HX7 HX13 HNf
            generalize (((((v21.alloc (.cells #[.int .u8 1, .int .u8 0, .int .u8 0, .int .i32 1, .string ⟨#[]⟩, .slice none 0 0] 27)).alloc (.cells #[.int .u8 1, .int .u8 0, .int .u8 0, .int .i32 1, .string ⟨#[]⟩, .slice none 0 0, .int .u8 1, .int .u8 0, .int .u8 0, .int .i32 1, .string ⟨#[]⟩, .slice none 0 0] 27)).alloc (.cells #[.int .u8 1, .int .u8 0, .int .u8 0, .int .i32 1, .string ⟨#[]⟩, .slice none 0 0] 27)).alloc (.cells #[.int .u8 1, .int .u8 0, .int .u8 0, .int .i32 1, .string ⟨#[]⟩, .slice none 0 0] 27)).alloc (.cells #[.int .u8 0, .int .u8 0, .int .u8 0, .int .i32 0, .string ⟨#[]⟩, .slice none 0 0, .int .u8 4, .int .u8 0, .int .u8 0, .int .i32 0, .string ⟨#[]⟩, .slice none 0 0, .int .u8 4, .int .u8 0, .int .u8 0, .int .i32 0, .string ⟨#[83, 69, 81]⟩, .slice none 0 0, .int .u8 2, .int .u8 0, .int .u8 0, .int .i32 256, .string ⟨#[]⟩, .slice none 0 0, .int .u8 3, .int .u8 0, .int .u8 0, .int .i32 2, .string ⟨#[]⟩, .slice none 0 0, .int .u8 1, .int .u8 0, .int .u8 0, .int .i32 0, .string ⟨#[97]⟩, .slice none 0 0, .int .u8 5, .int .u8 0, .int .u8 0, .int .i32 0, .string ⟨#[118]⟩, .slice none 0 0, .int .u8 6, .int .u8 2, .int .u8 0, .int .i32 0, .string ⟨#[]⟩, .slice (some ⟨v21.heap.size, 0, none⟩) 1 1, .int .u8 7, .int .u8 26, .int .u8 0, .int .i32 0, .string ⟨#[]⟩, .slice (some ⟨v21.heap.size + 1, 0, none⟩) 2 2, .int .u8 8, .int .u8 0, .int .u8 4, .int .i32 0, .string ⟨#[]⟩, .slice (some ⟨v21.heap.size + 1 + 1, 0, none⟩) 1 1, .int .u8 9, .int .u8 0, .int .u8 0, .int .i32 0, .string ⟨#[118]⟩, .slice (some ⟨v21.heap.size + 1 + 1 + 1, 0, none⟩) 1 1, .int .u8 99, .int .u8 0, .int .u8 0, .int .i32 0, .string ⟨#[]⟩, .slice none 0 0] 27)) = Z21 at *
            generalize (some ⟨v21.heap.size + 1 + 1 + 1 + 1, 0, none⟩ : Option Addr) = L21 at *
            go_loopw [189, 14] (fun i f wr => ∃ j : Nat, j ≤ 12 ∧ i = .int .i64 (j : Int) ∧ f = .bool true ∧ Hid (S10 V wr ∧ TrR wr L21 12 badL)) (fun i _ _ => 12 - (intOf i).toNat)
            case atStart => exact ⟨0, by omega, rfl, rfl, HB0⟩
            case round =>
              obtain ⟨j, hj, rfl, rfl, H⟩ := hrel
              have hj0 : (0 : Int) ≤ (j : Int) := by omega
              by_cases hlt : (j : Int) < 12
              · obtain ⟨ad, rfl, B, n, d, hn, ok, t, x0, x1, x2, x3, x4, x5⟩ := H.out.2.at (j := j) (show j < 12 by omega)
                have CB := Lib.hid (fun (X : World) b => bad_at (show j < 12 by omega) (H.out.1.step (Y := X) b) (t.keep b) hn ok)
                have HBn := Lib.hid (fun (X : World) (h : S10 V X) => box6 (boxS_new X 27 (exC (badL.getD j e0) B n d)))
                clear t hn ok
                generalize badL.getD j e0 = y at *
                dsimp only [exC] at *
                obtain ⟨y0, y1, y2, y3, y4, y5⟩ := HBn.out _ H.out.1
                go_wp2_with (first
                  | (go_at_call 12; (with_reducible refine (CB.out _ (bal (b0 _) (.cells #[.int .u8 (y.k : Int), .int .u8 (y.o : Int), .int .u8 (y.t : Int), .int .i32 y.n, .string (strOf y.s), .slice B n d] 27))).mono ?_); rintro e v22 ⟨rfl, g⟩; have HN := Lib.hid (And.intro ((H.out.1.step (bal (b0 _) (.cells #[.int .u8 (y.k : Int), .int .u8 (y.o : Int), .int .u8 (y.t : Int), .int .i32 y.n, .string (strOf y.s), .slice B n d] 27))).step g) ((H.out.2.keep (bal (b0 _) (.cells #[.int .u8 (y.k : Int), .int .u8 (y.o : Int), .int .u8 (y.t : Int), .int .i32 y.n, .string (strOf y.s), .slice B n d] 27))).keep g)); clear g))
                go_roundw
                case rel => exact ⟨j + 1, by omega, by go_num, rfl, HN⟩
                case measure => simp [intOf]; omega
              · obtain rfl : j = 12 := by omega
                clear HB0
                go_wp2_with (first
                  | (go_at_call 10; obtain ⟨t_u1, hw⟩ := CW0.out _ H.out.1; (with_reducible refine hw.mono ?_); rintro e u1 ⟨rfl, g⟩; have G1 := Lib.hid (H.out.1.step g); clear g hw)
                  | (go_at_call 10; obtain ⟨t_u2, hw⟩ := CW27.out _ G1.out; (with_reducible refine hw.mono ?_); rintro e u2 ⟨rfl, g⟩; have G2 := Lib.hid (G1.out.step g); clear g hw)
                  | (go_at_call 10; (with_reducible refine (CW12.out _ G2.out).mono ?_); rintro e u3 ⟨rfl, g⟩; have G3 := Lib.hid (G2.out.step g); clear g)
                  | (go_at_call 31; (with_reducible refine (CN.out ⟨#[105]⟩ u3).mono ?_); rintro e u4 ⟨rfl, g⟩; have G4 := Lib.hid (G3.out.step g); clear g)
                  | (go_at_call 32; (with_reducible refine (CTn.out _ _ (HBi.out u4)).mono ?_); rintro e u5 ⟨q, rfl, t, g⟩; have G5 := Lib.hid ((G4.out.step (bal (b0 _) (.cells #[.int .u8 4, .int .u8 0, .int .u8 0, .int .i32 0, .string ⟨#[105]⟩, .slice none 0 0] 27))).step g); have T5 := Lib.hid t; clear g t)
                  | (go_at_call 17; (with_reducible refine (CNn.out _ _ G5.out T5.out).mono ?_); rintro e u6 ⟨B6, d6, rfl, r, g⟩; have G6 := Lib.hid (G5.out.step g); have N6 := Lib.hid (r.keep (bal (b0 _) (.cells #[.string ⟨#[118]⟩, .string ⟨#[105]⟩, .string ⟨#[119]⟩] 9))); clear g r)
                  | (go_at_call 16; (with_reducible refine (CTx.out _ _ _ _ _ N6.out (HSn.out u6)).mono ?_); rintro e u7 ⟨rfl, g⟩; have G7 := Lib.hid ((G6.out.step (bal (b0 _) (.cells #[.string ⟨#[118]⟩, .string ⟨#[105]⟩, .string ⟨#[119]⟩] 9))).step g); clear g)
                  | (go_at_call 21; (with_reducible refine (CWo.out _ G7.out).mono ?_); rintro e u8 ⟨rfl, g⟩; have G8 := Lib.hid (G7.out.step g); clear g))
                go_ret
                exact ⟨rfl, blw HT0.out.2.2.1 G8.out.bel⟩
theorem rowExprKnown (w : World) (h : T10 w ∧ W1.Tab w) : Calls Tryz.prog 8 #[] w fun e w' => e = .returned (.bool true) ∧ Below w.heap.size w w' := walkExprKnown w h.1 h.2
end Go.Proofs.YtplcmcealeeppaaGreatDoor
