/- The reference: the tokens of trees with parts: an index. -/
import Derived.Test.YtplcmcealeeppaaGreatDoorM19
set_option linter.unusedVariables false
set_option linter.unusedSimpArgs false
set_option linter.unusedVariables false
set_option linter.unusedSimpArgs false
namespace Go.Proofs.YtplcmcealeeppaaGreatDoor
open Go Go.RowKit L8 L10

set_option maxRecDepth 100000 in
set_option maxHeartbeats 16000000 in
theorem rl_5 (s : Bs) (y : Ex) (ih : RLC y) (hy : allE y = true) : RLC (.mk 5 0 0 0 s [y]) := by
  intro A m c w R hm ok hsz
  obtain rfl : m = 1 := hm.symm
  have R1 : TrR w A c [y] := R
  obtain ⟨ad, rfl, oky, Cy, fy, Ry, Xy⟩ := R1.hd
  obtain ⟨qy, hqy⟩ : ∃ q, y.l.length = q := ⟨_, rfl⟩
  have hs2 : szE y ≤ 255 := by { simp only [szE, szL] at hsz; omega }
  have HV : Hid (LS w ((w.alloc (.cells #[.int .u8 5, .int .u8 0, .int .u8 0, .int .i32 0, .string (strOf s), .slice (some ad) 1 c] 27)).alloc (.cells #[.int .u8 1, .int .i64 0, .string (strOf s), .int .i32 0] 47)) (.mk 5 0 0 0 s [y]) (some ad) 1 c) := Lib.hid (LS.new w (.mk 5 0 0 0 s [y]) (some ad) 1 c)
  have HC : Hid (∀ w', LS w w' (.mk 5 0 0 0 s [y]) (some ad) 1 c → (w'.cell? ⟨w.heap.size, 5, none⟩ = some (.slice (some ad) 1 c)) ∧ (w'.cell? ⟨w.heap.size + 1, 0, none⟩ = some (.int .u8 1) ∧ w'.cell? ⟨w.heap.size + 1, 1, none⟩ = some (.int .i64 0) ∧ w'.cell? ⟨w.heap.size + 1, 2, none⟩ = some (.string (strOf s)) ∧ w'.cell? ⟨w.heap.size + 1, 3, none⟩ = some (.int .i32 0)) ∧ (w'.cell? ad = some (.int .u8 (y.k : Int)) ∧ w'.cell? ⟨ad.block, ad.off + 1, none⟩ = some (.int .u8 (y.o : Int)) ∧ w'.cell? ⟨ad.block, ad.off + 2, none⟩ = some (.int .u8 (y.t : Int)) ∧ w'.cell? ⟨ad.block, ad.off + 3, none⟩ = some (.int .i32 y.n) ∧ w'.cell? ⟨ad.block, ad.off + 4, none⟩ = some (.string (strOf y.s)) ∧ w'.cell? ⟨ad.block, ad.off + 5, none⟩ = some (.slice Cy qy fy))) := Lib.hid fun X h => ⟨h.cells.1.2.2.2.2.2, h.cells.2, XC.of Xy hqy h.bel⟩
  have HG : Hid (∀ (X : World) (B : Option Addr) (q d : Nat) (l : List Tk), LS w X (.mk 5 0 0 0 s [y]) (some ad) 1 c → OwnR X 47 (w.heap.size + 2) B q d l → tkE (.mk 5 0 0 0 s [y]) = l → OKL l → GivesL w (tkE (.mk 5 0 0 0 s [y])) (.returned (.slice B q d)) X) := Lib.hid fun X B q d l h o hl k => h.gives o hl k
  have HI : Hid (∀ Y, LS w Y (.mk 5 0 0 0 s [y]) (some ad) 1 c → Calls Tryz.prog 41 #[exV y Cy qy fy] Y fun en w' => ∃ B d q, en = .returned (.slice B q d) ∧ (OwnR w' 47 (w.heap.size + 2) B q d (tkE y) ∧ OKL (tkE y) ∧ (tkE y).length = q ∧ 0 < q ∧ q ≤ 2000) ∧ Below Y.heap.size Y w') := Lib.hid fun Y h => (ih Cy qy fy Y (Ry.keep h.bel) hqy oky (by omega)).mono fun en w' ⟨B, d, h1, h2, h3, h4⟩ => ⟨B, d, _, h1, ⟨h2.base h.lt, h3, rfl, tk_pos hy, by have := tk_bound y hy; omega⟩, h4⟩
  have HL : Hid (∀ X, LS w X (.mk 5 0 0 0 s [y]) (some ad) 1 c → OwnR (X.alloc (.cells #[.int .u8 1, .int .i64 0, .string (strOf s), .int .i32 0, .int .u8 5, .int .i64 0, .string ⟨#[91]⟩, .int .i32 0] 47)) 47 (w.heap.size + 2) (some ⟨X.heap.size, 0, none⟩) 2 2 [nm s, lb]) := Lib.hid fun X h => own_lit (rs := [nm s, lb]) (boxS_new X _ _) h.lt rfl (by decide)
  have HT := Lib.hid (fun (W : World) => tok1 rb (okx_k (by show (1 : Nat) ≤ maxLen; unfold maxLen; decide) (by decide)) W)
  have HO : Hid (OKL (tkE y) → OKL (([nm s, lb] ++ tkE y) ++ [rb])) := Lib.hid fun h => OKL.app (OKL.app (OKL.app (OKL.one (okx_k ok.2.2.2.2.2 (by decide))) (OKL.one (okx_k (by show (1 : Nat) ≤ maxLen; unfold maxLen; decide) (by decide)))) h) (OKL.one (okx_k (by show (1 : Nat) ≤ maxLen; unfold maxLen; decide) (by decide)))
  have HE := Lib.hid (show tkE (.mk 5 0 0 0 s [y]) = ([nm s, lb] ++ tkE y) ++ [rb] by rw [tk_5]; simp)
  have CL := Lib.hid (fun (W : World) => RSymX_any ⟨#[91]⟩ W)
  have CR := Lib.hid (fun (W : World) => RSymX_any ⟨#[93]⟩ W)
  clear R R1 hm ok hsz hs2 Ry Xy oky hqy
  clear ih hy
  generalize GivesL w (tkE (.mk 5 0 0 0 s [y])) = POST at *
  show Calls Tryz.prog 41 #[.agg #[.int .u8 5, .int .u8 0, .int .u8 0, .int .i32 0, .string (strOf s), .slice (some ad) 1 c]] w POST
  dsimp only [exV] at *
  generalize strOf y.s = SY at *
  generalize strOf s = S at *
  go_enter Tryz.func41, Tryz.ntmps41
  go_wp2
  generalize (w.alloc (.cells #[.int .u8 5, .int .u8 0, .int .u8 0, .int .i32 0, .string S, .slice (some ad) 1 c] 27)).alloc (.cells #[.int .u8 1, .int .i64 0, .string S, .int .i32 0] 47) = V at *
  have HD : Hid (LS w V.drew (.mk 5 0 0 0 s [y]) (some ad) 1 c) := Lib.hid (HV.out.step (bdrew (b0 V) 1))
  have z1 := HC.out _ HV.out
  have z2 := HC.out _ HD.out
  go_region_held3 (fun w' => (w'.cell? ⟨w.heap.size, 5, none⟩ = some (.slice (some ad) 1 c)) ∧ (w'.cell? ⟨w.heap.size + 1, 0, none⟩ = some (.int .u8 1) ∧ w'.cell? ⟨w.heap.size + 1, 1, none⟩ = some (.int .i64 0) ∧ w'.cell? ⟨w.heap.size + 1, 2, none⟩ = some (.string S) ∧ w'.cell? ⟨w.heap.size + 1, 3, none⟩ = some (.int .i32 0)) ∧ (w'.cell? ad = some (.int .u8 (y.k : Int)) ∧ w'.cell? ⟨ad.block, ad.off + 1, none⟩ = some (.int .u8 (y.o : Int)) ∧ w'.cell? ⟨ad.block, ad.off + 2, none⟩ = some (.int .u8 (y.t : Int)) ∧ w'.cell? ⟨ad.block, ad.off + 3, none⟩ = some (.int .i32 y.n) ∧ w'.cell? ⟨ad.block, ad.off + 4, none⟩ = some (.string SY) ∧ w'.cell? ⟨ad.block, ad.off + 5, none⟩ = some (.slice Cy qy fy)))
    (first | (exact z1) | (exact z2) | (exact HC.out _ H1.out) | (exact HC.out _ H1a.out) | (exact HC.out _ H2b.out) | (exact HC.out _ H2.out) | (exact HC.out _ H3.out) | (exact HC.out _ H4.out) | (exact HC.out _ H4a.out) | (exact HC.out _ H5.out) | go_keep)
    (first
    | (go_at_call 63; (with_reducible refine (CL.out _).mono ?_); rintro e1 W1 ⟨rfl, b⟩; have H1 := Lib.hid (HD.out.step b); clear b; have H1a := Lib.hid (H1.out.step (bal (b0 W1) (.cells #[.int .u8 1, .int .i64 0, .string S, .int .i32 0, .int .u8 5, .int .i64 0, .string ⟨#[91]⟩, .int .i32 0] 47))); have L1 := Lib.hid (HL.out W1 H1.out))
    | (go_at_call 41; (with_reducible refine (HI.out _ H1a.out).mono ?_); rintro e1 W2 ⟨B2, d2, q2, rfl, r, b⟩; have H2 := Lib.hid (H1a.out.step b); have L2 := Lib.hid (L1.out.keep b); have K2 := Lib.hid r; clear b r; have K2r := Lib.hid (K2.out.1.rr K2.out.2.1); have hq2 := K2.out.2.2.2)
    | (go_at_call 41; (with_reducible refine (HI.out _ H1.out).mono ?_); rintro e1 W2 ⟨B2, d2, q2, rfl, r, b⟩; have H2b := Lib.hid (H1.out.step b); have L2 := Lib.hid (HL.out W2 H2b.out); have H2 := Lib.hid (H2b.out.step (bal (b0 W2) (.cells #[.int .u8 1, .int .i64 0, .string S, .int .i32 0, .int .u8 5, .int .i64 0, .string ⟨#[91]⟩, .int .i32 0] 47))); have K2 := Lib.hid r; clear b r; have K2r := Lib.hid ((K2.out.1.rr K2.out.2.1).keep (bal (b0 W2) (.cells #[.int .u8 1, .int .i64 0, .string S, .int .i32 0, .int .u8 5, .int .i64 0, .string ⟨#[91]⟩, .int .i32 0] 47))); have hq2 := K2.out.2.2.2)
    | (refine step_rw rfl (.tmp 43) (.tmp 48) rfl (w.heap.size + 2) 2 2 q2 d2 (2 + q2) (some ⟨W1.heap.size, 0, none⟩) B2 [nm s, lb] (tkE y) rfl rfl L2.out K2.out.2.2.1 K2.out.2.2.2.1 K2r.out rfl (by omega) H2.out.lt ?_; intro A3 c3 W3 o2 g2; have H3 := Lib.hid (H2.out.app L2.out g2); have L3 := Lib.hid o2; clear o2 g2)
    | (refine step_rw rfl (.tmp 43) (.tmp 48) rfl (w.heap.size + 2) 2 2 q2 d2 (2 + q2) (some ⟨W2.heap.size, 0, none⟩) B2 [nm s, lb] (tkE y) rfl rfl L2.out K2.out.2.2.1 K2.out.2.2.2.1 K2r.out rfl (by omega) H2.out.lt ?_; intro A3 c3 W3 o2 g2; have H3 := Lib.hid (H2.out.app L2.out g2); have L3 := Lib.hid o2; clear o2 g2)
    | (go_at_call 63; (with_reducible refine (CR.out _).mono ?_); rintro e1 W4 ⟨rfl, b⟩; have H4 := Lib.hid (H3.out.step b); have H4a := Lib.hid (H4.out.step (bal (b0 W4) (.cells #[.int .u8 5, .int .i64 0, .string ⟨#[93]⟩, .int .i32 0] 47))); have L4 := Lib.hid ((L3.out.keep b).keep (bal (b0 W4) (.cells #[.int .u8 5, .int .i64 0, .string ⟨#[93]⟩, .int .i32 0] 47))); clear b)
    | (refine step_rw rfl (.tmp 49) (.tmp 51) rfl (w.heap.size + 2) (2 + q2) c3 1 1 (2 + q2 + 1) A3 (some ⟨W4.heap.size, 0, none⟩) ([nm s, lb] ++ tkE y) [rb] rfl rfl L4.out rfl (by decide) (HT.out W4) rfl (by omega) H4a.out.lt ?_; intro A5 c5 W5 o2 g2; have H5 := Lib.hid (H4a.out.app L4.out g2); have L5 := Lib.hid o2; clear o2 g2))
  all_goals (
    go_wp2
    first | exact HG.out _ _ _ _ _ H5.out L5.out HE.out (HO.out K2.out.2.1) | (go_ret; exact HG.out _ _ _ _ _ H5.out L5.out HE.out (HO.out K2.out.2.1)))
end Go.Proofs.YtplcmcealeeppaaGreatDoor
/- The reference: the tokens of trees with parts: an operator, a conversion. -/
set_option linter.unusedVariables false
set_option linter.unusedSimpArgs false
namespace Go.Proofs.YtplcmcealeeppaaGreatDoor
open Go Go.RowKit L8 L10

theorem op_pos (y : Ex) (h : allE y = true) : 0 < (opT y).length := by
  have := tk_pos h
  have := tk_len y
  omega
set_option maxRecDepth 100000 in
set_option maxHeartbeats 16000000 in
theorem rl_6 (o : Nat) (h1 : 23 ≤ o) (h2 : o ≤ 26) (y : Ex) (ih : ROC y) (hy : allE y = true) : RLC (.mk 6 o 0 0 [] [y]) := by
  intro A m c w R hm ok hsz
  obtain rfl : m = 1 := hm.symm
  have R1 : TrR w A c [y] := R
  obtain ⟨ad, rfl, oky, Cy, fy, Ry, Xy⟩ := R1.hd
  obtain ⟨qy, hqy⟩ : ∃ q, y.l.length = q := ⟨_, rfl⟩
  have hs2 : szE y ≤ 255 := by { simp only [szE, szL] at hsz; omega }
  have HV : Hid (LS w ((w.alloc (.cells #[.int .u8 6, .int .u8 (o : Int), .int .u8 0, .int .i32 0, .string ⟨#[]⟩, .slice (some ad) 1 c] 27)).alloc (.cells #[.int .u8 1, .int .i64 0, .string ⟨#[]⟩, .int .i32 0] 47)) (.mk 6 o 0 0 [] [y]) (some ad) 1 c) := Lib.hid (LS.new w (.mk 6 o 0 0 [] [y]) (some ad) 1 c)
  have HC : Hid (∀ w', LS w w' (.mk 6 o 0 0 [] [y]) (some ad) 1 c → (w'.cell? ⟨w.heap.size, 1, none⟩ = some (.int .u8 (o : Int)) ∧ w'.cell? ⟨w.heap.size, 5, none⟩ = some (.slice (some ad) 1 c)) ∧ (w'.cell? ad = some (.int .u8 (y.k : Int)) ∧ w'.cell? ⟨ad.block, ad.off + 1, none⟩ = some (.int .u8 (y.o : Int)) ∧ w'.cell? ⟨ad.block, ad.off + 2, none⟩ = some (.int .u8 (y.t : Int)) ∧ w'.cell? ⟨ad.block, ad.off + 3, none⟩ = some (.int .i32 y.n) ∧ w'.cell? ⟨ad.block, ad.off + 4, none⟩ = some (.string (strOf y.s)) ∧ w'.cell? ⟨ad.block, ad.off + 5, none⟩ = some (.slice Cy qy fy))) := Lib.hid fun X h => ⟨⟨h.cells.1.2.1, h.cells.1.2.2.2.2.2⟩, XC.of Xy hqy h.bel⟩
  have HG : Hid (∀ (X : World) (B : Option Addr) (q d : Nat) (l : List Tk), LS w X (.mk 6 o 0 0 [] [y]) (some ad) 1 c → OwnR X 47 (w.heap.size + 2) B q d l → tkE (.mk 6 o 0 0 [] [y]) = l → OKL l → GivesL w (tkE (.mk 6 o 0 0 [] [y])) (.returned (.slice B q d)) X) := Lib.hid fun X B q d l h o hl k => h.gives o hl k
  have HI : Hid (∀ Y, LS w Y (.mk 6 o 0 0 [] [y]) (some ad) 1 c → Calls Tryz.prog 65 #[exV y Cy qy fy] Y fun en w' => ∃ B d q, en = .returned (.slice B q d) ∧ (OwnR w' 47 (w.heap.size + 2) B q d (opT y) ∧ OKL (opT y) ∧ (opT y).length = q ∧ 0 < q ∧ q ≤ 2000) ∧ Below Y.heap.size Y w') := Lib.hid fun Y h => (ih Cy qy fy Y (Ry.keep h.bel) hqy oky (by omega)).mono fun en w' ⟨B, d, h1, h2, h3, h4⟩ => ⟨B, d, _, h1, ⟨h2.base h.lt, h3, rfl, op_pos y hy, by have := op_bound hy; omega⟩, h4⟩
  have HL : Hid (∀ X, LS w X (.mk 6 o 0 0 [] [y]) (some ad) 1 c → OwnR (X.alloc (.cells #[.int .u8 ((mk o).k : Int), .int .i64 0, .string (strOf (opW o)), .int .i32 0] 47)) 47 (w.heap.size + 2) (some ⟨X.heap.size, 0, none⟩) 1 1 [mk o]) := Lib.hid fun X h => own_lit (rs := [mk o]) (by rw [show (rwCs [mk o]).toArray = #[.int .u8 ((mk o).k : Int), .int .i64 0, .string (strOf (opW o)), .int .i32 0] from (by rw [mk_cs]; rfl)]; exact boxS_new X _ _) h.lt rfl (by decide)
  have HO : Hid (OKL (opT y) → OKL ([mk o] ++ opT y)) := Lib.hid fun h => OKL.app (OKL.one (okx_mk o)) h
  have HE := Lib.hid (show tkE (.mk 6 o 0 0 [] [y]) = [mk o] ++ opT y by rw [tk_6]; rfl)
  have CK : Hid (∀ W, Calls Tryz.prog 64 #[.int .u8 (o : Int)] W fun e w' => e = .returned (.agg #[.int .u8 ((mk o).k : Int), .int .i64 0, .string (strOf (opW o)), .int .i32 0]) ∧ Below W.heap.size W w') := Lib.hid fun W => by { have := RMark_any o W; rwa [mk_val] at this }
  clear R R1 hm ok hsz hs2 Ry Xy oky hqy
  clear ih hy h1 h2
  generalize GivesL w (tkE (.mk 6 o 0 0 [] [y])) = POST at *
  show Calls Tryz.prog 41 #[.agg #[.int .u8 6, .int .u8 (o : Int), .int .u8 0, .int .i32 0, .string ⟨#[]⟩, .slice (some ad) 1 c]] w POST
  dsimp only [exV] at *
  generalize strOf y.s = SY at *
  generalize strOf (opW o) = SW at *
  generalize (mk o).k = MK at *
  go_enter Tryz.func41, Tryz.ntmps41
  go_wp2
  generalize (w.alloc (.cells #[.int .u8 6, .int .u8 (o : Int), .int .u8 0, .int .i32 0, .string ⟨#[]⟩, .slice (some ad) 1 c] 27)).alloc (.cells #[.int .u8 1, .int .i64 0, .string ⟨#[]⟩, .int .i32 0] 47) = V at *
  have HD : Hid (LS w V.drew (.mk 6 o 0 0 [] [y]) (some ad) 1 c) := Lib.hid (HV.out.step (bdrew (b0 V) 1))
  have z1 := HC.out _ HV.out
  have z2 := HC.out _ HD.out
  go_region_held3 (fun w' => (w'.cell? ⟨w.heap.size, 1, none⟩ = some (.int .u8 (o : Int)) ∧ w'.cell? ⟨w.heap.size, 5, none⟩ = some (.slice (some ad) 1 c)) ∧ (w'.cell? ad = some (.int .u8 (y.k : Int)) ∧ w'.cell? ⟨ad.block, ad.off + 1, none⟩ = some (.int .u8 (y.o : Int)) ∧ w'.cell? ⟨ad.block, ad.off + 2, none⟩ = some (.int .u8 (y.t : Int)) ∧ w'.cell? ⟨ad.block, ad.off + 3, none⟩ = some (.int .i32 y.n) ∧ w'.cell? ⟨ad.block, ad.off + 4, none⟩ = some (.string SY) ∧ w'.cell? ⟨ad.block, ad.off + 5, none⟩ = some (.slice Cy qy fy)))
    (first | (exact z1) | (exact z2) | (exact HC.out _ H1.out) | (exact HC.out _ H1a.out) | (exact HC.out _ H2b.out) | (exact HC.out _ H2.out) | (exact HC.out _ H3.out) | go_keep)
    (first
    | (go_at_call 64; (with_reducible refine (CK.out _).mono ?_); rintro e1 W1 ⟨rfl, b⟩; have H1 := Lib.hid (HD.out.step b); clear b; have H1a := Lib.hid (H1.out.step (bal (b0 W1) (.cells #[.int .u8 (MK : Int), .int .i64 0, .string SW, .int .i32 0] 47))); have L1 := Lib.hid (HL.out W1 H1.out))
    | (go_at_call 65; (with_reducible refine (HI.out _ H1a.out).mono ?_); rintro e1 W2 ⟨B2, d2, q2, rfl, r, b⟩; have H2 := Lib.hid (H1a.out.step b); have L2 := Lib.hid (L1.out.keep b); have K2 := Lib.hid r; clear b r; have K2r := Lib.hid (K2.out.1.rr K2.out.2.1); have hq2 := K2.out.2.2.2)
    | (go_at_call 65; (with_reducible refine (HI.out _ H1.out).mono ?_); rintro e1 W2 ⟨B2, d2, q2, rfl, r, b⟩; have H2b := Lib.hid (H1.out.step b); have L2 := Lib.hid (HL.out W2 H2b.out); have H2 := Lib.hid (H2b.out.step (bal (b0 W2) (.cells #[.int .u8 (MK : Int), .int .i64 0, .string SW, .int .i32 0] 47))); have K2 := Lib.hid r; clear b r; have K2r := Lib.hid ((K2.out.1.rr K2.out.2.1).keep (bal (b0 W2) (.cells #[.int .u8 (MK : Int), .int .i64 0, .string SW, .int .i32 0] 47))); have hq2 := K2.out.2.2.2)
    | (refine step_rw rfl (.tmp 58) (.tmp 63) rfl (w.heap.size + 2) 1 1 q2 d2 (1 + q2) (some ⟨W1.heap.size, 0, none⟩) B2 [mk o] (opT y) rfl rfl L2.out K2.out.2.2.1 K2.out.2.2.2.1 K2r.out rfl (by omega) H2.out.lt ?_; intro A3 c3 W3 o2 g2; have H3 := Lib.hid (H2.out.app L2.out g2); have L3 := Lib.hid o2; clear o2 g2)
    | (refine step_rw rfl (.tmp 58) (.tmp 63) rfl (w.heap.size + 2) 1 1 q2 d2 (1 + q2) (some ⟨W2.heap.size, 0, none⟩) B2 [mk o] (opT y) rfl rfl L2.out K2.out.2.2.1 K2.out.2.2.2.1 K2r.out rfl (by omega) H2.out.lt ?_; intro A3 c3 W3 o2 g2; have H3 := Lib.hid (H2.out.app L2.out g2); have L3 := Lib.hid o2; clear o2 g2))
  all_goals (
    go_wp2
    first | exact HG.out _ _ _ _ _ H3.out L3.out HE.out (HO.out K2.out.2.1) | (go_ret; exact HG.out _ _ _ _ _ H3.out L3.out HE.out (HO.out K2.out.2.1)))
set_option maxRecDepth 100000 in
set_option maxHeartbeats 16000000 in
theorem rl_8 (t : Nat) (y : Ex) (ih : ROC y) (hy : allE y = true) : RLC (.mk 8 0 t 0 [] [y]) := by
  intro A m c w R hm ok hsz
  obtain rfl : m = 1 := hm.symm
  have R1 : TrR w A c [y] := R
  obtain ⟨ad, rfl, oky, Cy, fy, Ry, Xy⟩ := R1.hd
  obtain ⟨qy, hqy⟩ : ∃ q, y.l.length = q := ⟨_, rfl⟩
  have hs2 : szE y ≤ 255 := by { simp only [szE, szL] at hsz; omega }
  have HV : Hid (LS w ((w.alloc (.cells #[.int .u8 8, .int .u8 0, .int .u8 (t : Int), .int .i32 0, .string ⟨#[]⟩, .slice (some ad) 1 c] 27)).alloc (.cells #[.int .u8 1, .int .i64 0, .string ⟨#[]⟩, .int .i32 0] 47)) (.mk 8 0 t 0 [] [y]) (some ad) 1 c) := Lib.hid (LS.new w (.mk 8 0 t 0 [] [y]) (some ad) 1 c)
  have HC : Hid (∀ w', LS w w' (.mk 8 0 t 0 [] [y]) (some ad) 1 c → (w'.cell? ⟨w.heap.size, 2, none⟩ = some (.int .u8 (t : Int)) ∧ w'.cell? ⟨w.heap.size, 5, none⟩ = some (.slice (some ad) 1 c)) ∧ (w'.cell? ad = some (.int .u8 (y.k : Int)) ∧ w'.cell? ⟨ad.block, ad.off + 1, none⟩ = some (.int .u8 (y.o : Int)) ∧ w'.cell? ⟨ad.block, ad.off + 2, none⟩ = some (.int .u8 (y.t : Int)) ∧ w'.cell? ⟨ad.block, ad.off + 3, none⟩ = some (.int .i32 y.n) ∧ w'.cell? ⟨ad.block, ad.off + 4, none⟩ = some (.string (strOf y.s)) ∧ w'.cell? ⟨ad.block, ad.off + 5, none⟩ = some (.slice Cy qy fy))) := Lib.hid fun X h => ⟨⟨h.cells.1.2.2.1, h.cells.1.2.2.2.2.2⟩, XC.of Xy hqy h.bel⟩
  have HG : Hid (∀ (X : World) (B : Option Addr) (q d : Nat) (l : List Tk), LS w X (.mk 8 0 t 0 [] [y]) (some ad) 1 c → OwnR X 47 (w.heap.size + 2) B q d l → tkE (.mk 8 0 t 0 [] [y]) = l → OKL l → GivesL w (tkE (.mk 8 0 t 0 [] [y])) (.returned (.slice B q d)) X) := Lib.hid fun X B q d l h o hl k => h.gives o hl k
  have HI : Hid (∀ Y, LS w Y (.mk 8 0 t 0 [] [y]) (some ad) 1 c → Calls Tryz.prog 65 #[exV y Cy qy fy] Y fun en w' => ∃ B d q, en = .returned (.slice B q d) ∧ (OwnR w' 47 (w.heap.size + 2) B q d (opT y) ∧ OKL (opT y) ∧ (opT y).length = q ∧ 0 < q ∧ q ≤ 2000) ∧ Below Y.heap.size Y w') := Lib.hid fun Y h => (ih Cy qy fy Y (Ry.keep h.bel) hqy oky (by omega)).mono fun en w' ⟨B, d, h1, h2, h3, h4⟩ => ⟨B, d, _, h1, ⟨h2.base h.lt, h3, rfl, op_pos y hy, by have := op_bound hy; omega⟩, h4⟩
  have HL : Hid (∀ X, LS w X (.mk 8 0 t 0 [] [y]) (some ad) 1 c → OwnR (X.alloc (.cells #[.int .u8 2, .int .i64 0, .string (strOf (wd t)), .int .i32 0] 47)) 47 (w.heap.size + 2) (some ⟨X.heap.size, 0, none⟩) 1 1 [kw (wd t)]) := Lib.hid fun X h => own_lit (rs := [kw (wd t)]) (by rw [show (rwCs [kw (wd t)]).toArray = #[.int .u8 2, .int .i64 0, .string (strOf (wd t)), .int .i32 0] from rfl]; exact boxS_new X _ _) h.lt rfl (by decide)
  have HO : Hid (OKL (opT y) → OKL ([kw (wd t)] ++ opT y)) := Lib.hid fun h => OKL.app (OKL.one (okx_k (wd_len10 t) (by decide))) h
  have HE := Lib.hid (show tkE (.mk 8 0 t 0 [] [y]) = [kw (wd t)] ++ opT y by rw [tk_8]; rfl)
  have CT := Lib.hid (fun (W : World) => RTyped_any t W)
  have CK := Lib.hid (fun (W : World) => RKeyX_any (strOf (wd t)) W)
  clear R R1 hm ok hsz hs2 Ry Xy oky hqy
  clear ih hy
  generalize GivesL w (tkE (.mk 8 0 t 0 [] [y])) = POST at *
  show Calls Tryz.prog 41 #[.agg #[.int .u8 8, .int .u8 0, .int .u8 (t : Int), .int .i32 0, .string ⟨#[]⟩, .slice (some ad) 1 c]] w POST
  dsimp only [exV] at *
  generalize strOf y.s = SY at *
  generalize strOf (wd t) = SW at *
  go_enter Tryz.func41, Tryz.ntmps41
  go_wp2
  generalize (w.alloc (.cells #[.int .u8 8, .int .u8 0, .int .u8 (t : Int), .int .i32 0, .string ⟨#[]⟩, .slice (some ad) 1 c] 27)).alloc (.cells #[.int .u8 1, .int .i64 0, .string ⟨#[]⟩, .int .i32 0] 47) = V at *
  have HD : Hid (LS w V.drew (.mk 8 0 t 0 [] [y]) (some ad) 1 c) := Lib.hid (HV.out.step (bdrew (b0 V) 1))
  have z1 := HC.out _ HV.out
  have z2 := HC.out _ HD.out
  go_region_held3 (fun w' => (w'.cell? ⟨w.heap.size, 2, none⟩ = some (.int .u8 (t : Int)) ∧ w'.cell? ⟨w.heap.size, 5, none⟩ = some (.slice (some ad) 1 c)) ∧ (w'.cell? ad = some (.int .u8 (y.k : Int)) ∧ w'.cell? ⟨ad.block, ad.off + 1, none⟩ = some (.int .u8 (y.o : Int)) ∧ w'.cell? ⟨ad.block, ad.off + 2, none⟩ = some (.int .u8 (y.t : Int)) ∧ w'.cell? ⟨ad.block, ad.off + 3, none⟩ = some (.int .i32 y.n) ∧ w'.cell? ⟨ad.block, ad.off + 4, none⟩ = some (.string SY) ∧ w'.cell? ⟨ad.block, ad.off + 5, none⟩ = some (.slice Cy qy fy)))
    (first | (exact z1) | (exact z2) | (exact HC.out _ H1.out) | (exact HC.out _ H1a.out) | (exact HC.out _ H2b.out) | (exact HC.out _ H2.out) | (exact HC.out _ H3.out) | go_keep)
    (first
    | (go_at_call 66; (with_reducible refine (CT.out _).mono ?_); rintro e1 W0 ⟨rfl, rfl⟩)
    | (go_at_call 62; (with_reducible refine (CK.out _).mono ?_); rintro e1 W1 ⟨rfl, b⟩; have H1 := Lib.hid (HD.out.step b); clear b; have H1a := Lib.hid (H1.out.step (bal (b0 W1) (.cells #[.int .u8 2, .int .i64 0, .string SW, .int .i32 0] 47))); have L1 := Lib.hid (HL.out W1 H1.out))
    | (go_at_call 65; (with_reducible refine (HI.out _ H1a.out).mono ?_); rintro e1 W2 ⟨B2, d2, q2, rfl, r, b⟩; have H2 := Lib.hid (H1a.out.step b); have L2 := Lib.hid (L1.out.keep b); have K2 := Lib.hid r; clear b r; have K2r := Lib.hid (K2.out.1.rr K2.out.2.1); have hq2 := K2.out.2.2.2)
    | (go_at_call 65; (with_reducible refine (HI.out _ H1.out).mono ?_); rintro e1 W2 ⟨B2, d2, q2, rfl, r, b⟩; have H2b := Lib.hid (H1.out.step b); have L2 := Lib.hid (HL.out W2 H2b.out); have H2 := Lib.hid (H2b.out.step (bal (b0 W2) (.cells #[.int .u8 2, .int .i64 0, .string SW, .int .i32 0] 47))); have K2 := Lib.hid r; clear b r; have K2r := Lib.hid ((K2.out.1.rr K2.out.2.1).keep (bal (b0 W2) (.cells #[.int .u8 2, .int .i64 0, .string SW, .int .i32 0] 47))); have hq2 := K2.out.2.2.2)
    | (refine step_rw rfl (.tmp 71) (.tmp 76) rfl (w.heap.size + 2) 1 1 q2 d2 (1 + q2) (some ⟨W1.heap.size, 0, none⟩) B2 [kw (wd t)] (opT y) rfl rfl L2.out K2.out.2.2.1 K2.out.2.2.2.1 K2r.out rfl (by omega) H2.out.lt ?_; intro A3 c3 W3 o2 g2; have H3 := Lib.hid (H2.out.app L2.out g2); have L3 := Lib.hid o2; clear o2 g2)
    | (refine step_rw rfl (.tmp 71) (.tmp 76) rfl (w.heap.size + 2) 1 1 q2 d2 (1 + q2) (some ⟨W2.heap.size, 0, none⟩) B2 [kw (wd t)] (opT y) rfl rfl L2.out K2.out.2.2.1 K2.out.2.2.2.1 K2r.out rfl (by omega) H2.out.lt ?_; intro A3 c3 W3 o2 g2; have H3 := Lib.hid (H2.out.app L2.out g2); have L3 := Lib.hid o2; clear o2 g2))
  all_goals (
    go_wp2
    first | exact HG.out _ _ _ _ _ H3.out L3.out HE.out (HO.out K2.out.2.1) | (go_ret; exact HG.out _ _ _ _ _ H3.out L3.out HE.out (HO.out K2.out.2.1)))
end Go.Proofs.YtplcmcealeeppaaGreatDoor
/- The reference: the tokens of trees with parts: a dyadic operator. -/
set_option linter.unusedVariables false
set_option linter.unusedSimpArgs false
namespace Go.Proofs.YtplcmcealeeppaaGreatDoor
open Go Go.RowKit L8 L10

set_option maxRecDepth 100000 in
set_option maxHeartbeats 16000000 in
theorem rl_7 (o : Nat) (y x : Ex) (ih : ROC y) (jh : ROC x) (hy : allE y = true) (hx : allE x = true) : RLC (.mk 7 o 0 0 [] [y, x]) := by
  intro A m c w R hm ok hsz
  obtain rfl : m = 2 := hm.symm
  have R1 : TrR w A c [y, x] := R
  obtain ⟨ad, rfl, oky, Cy, fy, Ry, Xy⟩ := R1.hd
  obtain ⟨okx, Cx, fx, Rx, Xx⟩ := R1.hd2
  obtain ⟨qx, hqx⟩ : ∃ q, x.l.length = q := ⟨_, rfl⟩
  obtain ⟨qy, hqy⟩ : ∃ q, y.l.length = q := ⟨_, rfl⟩
  have hs2 : szE y + szE x ≤ 255 := by { simp only [szE, szL] at hsz; omega }
  have HV : Hid (LS w ((w.alloc (.cells #[.int .u8 7, .int .u8 (o : Int), .int .u8 0, .int .i32 0, .string ⟨#[]⟩, .slice (some ad) 2 c] 27)).alloc (.cells #[.int .u8 1, .int .i64 0, .string ⟨#[]⟩, .int .i32 0] 47)) (.mk 7 o 0 0 [] [y, x]) (some ad) 2 c) := Lib.hid (LS.new w (.mk 7 o 0 0 [] [y, x]) (some ad) 2 c)
  have HC : Hid (∀ w', LS w w' (.mk 7 o 0 0 [] [y, x]) (some ad) 2 c → (w'.cell? ⟨w.heap.size, 1, none⟩ = some (.int .u8 (o : Int)) ∧ w'.cell? ⟨w.heap.size, 5, none⟩ = some (.slice (some ad) 2 c)) ∧ (w'.cell? ad = some (.int .u8 (y.k : Int)) ∧ w'.cell? ⟨ad.block, ad.off + 1, none⟩ = some (.int .u8 (y.o : Int)) ∧ w'.cell? ⟨ad.block, ad.off + 2, none⟩ = some (.int .u8 (y.t : Int)) ∧ w'.cell? ⟨ad.block, ad.off + 3, none⟩ = some (.int .i32 y.n) ∧ w'.cell? ⟨ad.block, ad.off + 4, none⟩ = some (.string (strOf y.s)) ∧ w'.cell? ⟨ad.block, ad.off + 5, none⟩ = some (.slice Cy qy fy)) ∧ (w'.cell? ⟨ad.block, ad.off + 6, none⟩ = some (.int .u8 (x.k : Int)) ∧ w'.cell? ⟨ad.block, ad.off + 6 + 1, none⟩ = some (.int .u8 (x.o : Int)) ∧ w'.cell? ⟨ad.block, ad.off + 6 + 2, none⟩ = some (.int .u8 (x.t : Int)) ∧ w'.cell? ⟨ad.block, ad.off + 6 + 3, none⟩ = some (.int .i32 x.n) ∧ w'.cell? ⟨ad.block, ad.off + 6 + 4, none⟩ = some (.string (strOf x.s)) ∧ w'.cell? ⟨ad.block, ad.off + 6 + 5, none⟩ = some (.slice Cx qx fx))) := Lib.hid fun X h => ⟨⟨h.cells.1.2.1, h.cells.1.2.2.2.2.2⟩, XC.of Xy hqy h.bel, XC.of Xx hqx h.bel⟩
  have HG : Hid (∀ (X : World) (B : Option Addr) (q d : Nat) (l : List Tk), LS w X (.mk 7 o 0 0 [] [y, x]) (some ad) 2 c → OwnR X 47 (w.heap.size + 2) B q d l → tkE (.mk 7 o 0 0 [] [y, x]) = l → OKL l → GivesL w (tkE (.mk 7 o 0 0 [] [y, x])) (.returned (.slice B q d)) X) := Lib.hid fun X B q d l h o hl k => h.gives o hl k
  have HI : Hid (∀ Y, LS w Y (.mk 7 o 0 0 [] [y, x]) (some ad) 2 c → Calls Tryz.prog 65 #[exV y Cy qy fy] Y fun en w' => ∃ B d q, en = .returned (.slice B q d) ∧ (OwnR w' 47 (w.heap.size + 2) B q d (opT y) ∧ OKL (opT y) ∧ (opT y).length = q ∧ 0 < q ∧ q ≤ 2000) ∧ Below Y.heap.size Y w') := Lib.hid fun Y h => (ih Cy qy fy Y (Ry.keep h.bel) hqy oky (by omega)).mono fun en w' ⟨B, d, h1, h2, h3, h4⟩ => ⟨B, d, _, h1, ⟨h2.base h.lt, h3, rfl, op_pos y hy, by have := op_bound hy; omega⟩, h4⟩
  have HJ : Hid (∀ Y, LS w Y (.mk 7 o 0 0 [] [y, x]) (some ad) 2 c → Calls Tryz.prog 65 #[exV x Cx qx fx] Y fun en w' => ∃ B d q, en = .returned (.slice B q d) ∧ (OwnR w' 47 (w.heap.size + 2) B q d (opT x) ∧ OKL (opT x) ∧ (opT x).length = q ∧ 0 < q ∧ q ≤ 2000) ∧ Below Y.heap.size Y w') := Lib.hid fun Y h => (jh Cx qx fx Y (Rx.keep h.bel) hqx okx (by omega)).mono fun en w' ⟨B, d, h1, h2, h3, h4⟩ => ⟨B, d, _, h1, ⟨h2.base h.lt, h3, rfl, op_pos x hx, by have := op_bound hx; omega⟩, h4⟩
  have HT : Hid (∀ W : World, RR (W.alloc (.cells #[.int .u8 ((mk o).k : Int), .int .i64 0, .string (strOf (opW o)), .int .i32 0] 47)) (some ⟨W.heap.size, 0, none⟩) 1 [mk o]) := Lib.hid fun W => by { have := tok1 (mk o) (okx_mk o) W; rwa [← mk_cs] at this }
  have HO : Hid (OKL (opT y) → OKL (opT x) → OKL ((opT y ++ [mk o]) ++ opT x)) := Lib.hid fun h k => OKL.app (OKL.app h (OKL.one (okx_mk o))) k
  have HE := Lib.hid (show tkE (.mk 7 o 0 0 [] [y, x]) = (opT y ++ [mk o]) ++ opT x by rw [tk_7]; simp)
  have CK : Hid (∀ W, Calls Tryz.prog 64 #[.int .u8 (o : Int)] W fun e w' => e = .returned (.agg #[.int .u8 ((mk o).k : Int), .int .i64 0, .string (strOf (opW o)), .int .i32 0]) ∧ Below W.heap.size W w') := Lib.hid fun W => by { have := RMark_any o W; rwa [mk_val] at this }
  clear R R1 hm ok hsz hs2 Ry Xy oky hqy Rx Xx okx hqx
  clear ih jh hy hx
  generalize GivesL w (tkE (.mk 7 o 0 0 [] [y, x])) = POST at *
  show Calls Tryz.prog 41 #[.agg #[.int .u8 7, .int .u8 (o : Int), .int .u8 0, .int .i32 0, .string ⟨#[]⟩, .slice (some ad) 2 c]] w POST
  dsimp only [exV] at *
  generalize strOf y.s = SY at *
  generalize strOf x.s = SX at *
  generalize strOf (opW o) = SW at *
  generalize (mk o).k = MK at *
  go_enter Tryz.func41, Tryz.ntmps41
  go_wp2
  generalize (w.alloc (.cells #[.int .u8 7, .int .u8 (o : Int), .int .u8 0, .int .i32 0, .string ⟨#[]⟩, .slice (some ad) 2 c] 27)).alloc (.cells #[.int .u8 1, .int .i64 0, .string ⟨#[]⟩, .int .i32 0] 47) = V at *
  have HD : Hid (LS w V.drew (.mk 7 o 0 0 [] [y, x]) (some ad) 2 c) := Lib.hid (HV.out.step (bdrew (b0 V) 1))
  have z1 := HC.out _ HV.out
  have z2 := HC.out _ HD.out
  go_region_held3 (fun w' => (w'.cell? ⟨w.heap.size, 1, none⟩ = some (.int .u8 (o : Int)) ∧ w'.cell? ⟨w.heap.size, 5, none⟩ = some (.slice (some ad) 2 c)) ∧ (w'.cell? ad = some (.int .u8 (y.k : Int)) ∧ w'.cell? ⟨ad.block, ad.off + 1, none⟩ = some (.int .u8 (y.o : Int)) ∧ w'.cell? ⟨ad.block, ad.off + 2, none⟩ = some (.int .u8 (y.t : Int)) ∧ w'.cell? ⟨ad.block, ad.off + 3, none⟩ = some (.int .i32 y.n) ∧ w'.cell? ⟨ad.block, ad.off + 4, none⟩ = some (.string SY) ∧ w'.cell? ⟨ad.block, ad.off + 5, none⟩ = some (.slice Cy qy fy)) ∧ (w'.cell? ⟨ad.block, ad.off + 6, none⟩ = some (.int .u8 (x.k : Int)) ∧ w'.cell? ⟨ad.block, ad.off + 6 + 1, none⟩ = some (.int .u8 (x.o : Int)) ∧ w'.cell? ⟨ad.block, ad.off + 6 + 2, none⟩ = some (.int .u8 (x.t : Int)) ∧ w'.cell? ⟨ad.block, ad.off + 6 + 3, none⟩ = some (.int .i32 x.n) ∧ w'.cell? ⟨ad.block, ad.off + 6 + 4, none⟩ = some (.string SX) ∧ w'.cell? ⟨ad.block, ad.off + 6 + 5, none⟩ = some (.slice Cx qx fx)))
    (first | (exact z1) | (exact z2) | (exact HC.out _ H1.out) | (exact HC.out _ H2.out) | (exact HC.out _ H2a.out) | (exact HC.out _ H3.out) | (exact HC.out _ H4.out) | (exact HC.out _ H5.out) | go_keep)
    (first
    | (go_at_call 65; (with_reducible refine (HI.out _ HD.out).mono ?_); rintro e1 W1 ⟨B1, d1, q1, rfl, r, b⟩; have H1 := Lib.hid (HD.out.step b); have K1 := Lib.hid r; have hq1 := r.2.2.2; clear b r)
    | (go_at_call 64; (with_reducible refine (CK.out _).mono ?_); rintro e1 W2 ⟨rfl, b⟩; have H2 := Lib.hid (H1.out.step b); have H2a := Lib.hid (H2.out.step (bal (b0 W2) (.cells #[.int .u8 (MK : Int), .int .i64 0, .string SW, .int .i32 0] 47))); have L2 := Lib.hid ((K1.out.1.keep b).keep (bal (b0 W2) (.cells #[.int .u8 (MK : Int), .int .i64 0, .string SW, .int .i32 0] 47))); clear b)
    | (refine step_rw rfl (.tmp 82) (.tmp 86) rfl (w.heap.size + 2) q1 d1 1 1 (q1 + 1) B1 (some ⟨W2.heap.size, 0, none⟩) (opT y) [mk o] rfl rfl L2.out rfl (by decide) (HT.out W2) rfl (by omega) H2a.out.lt ?_; intro A3 c3 W3 o2 g2; have H3 := Lib.hid (H2a.out.app L2.out g2); have L3 := Lib.hid o2; clear o2 g2)
    | (go_at_call 65; (with_reducible refine (HJ.out _ H3.out).mono ?_); rintro e1 W4 ⟨B4, d4, q4, rfl, r, b⟩; have H4 := Lib.hid (H3.out.step b); have L4 := Lib.hid (L3.out.keep b); have K4 := Lib.hid r; have hq4 := r.2.2.2; clear b r; have K4r := Lib.hid (K4.out.1.rr K4.out.2.1))
    | (refine step_rw rfl (.tmp 87) (.tmp 92) rfl (w.heap.size + 2) (q1 + 1) c3 q4 d4 (q1 + 1 + q4) A3 B4 (opT y ++ [mk o]) (opT x) rfl rfl L4.out K4.out.2.2.1 K4.out.2.2.2.1 K4r.out rfl (by omega) H4.out.lt ?_; intro A5 c5 W5 o2 g2; have H5 := Lib.hid (H4.out.app L4.out g2); have L5 := Lib.hid o2; clear o2 g2))
  all_goals (
    go_wp2
    first | exact HG.out _ _ _ _ _ H5.out L5.out HE.out (HO.out K1.out.2.1 K4.out.2.1) | (go_ret; exact HG.out _ _ _ _ _ H5.out L5.out HE.out (HO.out K1.out.2.1 K4.out.2.1)))
end Go.Proofs.YtplcmcealeeppaaGreatDoor
/- The reference: operands; the tokens of every valid tree; Tokens. -/
set_option linter.unusedVariables false
set_option linter.unusedSimpArgs false
namespace Go.Proofs.YtplcmcealeeppaaGreatDoor
open Go Go.RowKit L8 L10

structure OS (w X : World) (e : Ex) (A : Option Addr) (n c : Nat) : Prop where
  bel : Below w.heap.size w X
  ex : BoxS X w.heap.size 27 (exC e A n c)
theorem OS.step {w X Y : World} {e : Ex} {A : Option Addr} {n c : Nat} (h : OS w X e A n c) (b : Below X.heap.size X Y) : OS w Y e A n c := ⟨blw h.bel b, h.ex.below b⟩
theorem OS.lt {w X : World} {e : Ex} {A : Option Addr} {n c : Nat} (h : OS w X e A n c) : w.heap.size + 1 ≤ X.heap.size := h.ex.lt
theorem OS.app {w X Y : World} {e : Ex} {A B : Option Addr} {n c q d : Nat} {l : List Tk} (h : OS w X e A n c) (o : OwnR X 47 (w.heap.size + 1) B q d l) (g : X.grownBy Y (Value.slice B q d).ownBlock) : OS w Y e A n c :=
  ⟨bgrow h.bel o (by omega) g, box_grw o g (by omega) h.ex⟩
theorem OS.gives {w X : World} {e : Ex} {A B : Option Addr} {n c q d : Nat} {l m : List Tk} (h : OS w X e A n c) (o : OwnR X 47 (w.heap.size + 1) B q d l) (hl : m = l) (ok : OKL l) : GivesL w m (.returned (.slice B q d)) X := by
  subst hl
  obtain rfl := o.len
  exact ⟨B, d, rfl, o.base (by omega), ok, h.bel⟩
set_option maxRecDepth 100000 in
set_option maxHeartbeats 16000000 in
theorem ro_any (e : Ex) (ih : RLC e) (ha : allE e = true) : ROC e := by
  intro A n c w R hm ok hsz
  have HV : Hid (OS w (w.alloc (.cells (exC e A n c) 27)) e A n c) := Lib.hid ⟨bal (b0 w) _, boxS_new w _ _⟩
  have HC : Hid (∀ X, OS w X e A n c → X.cell? ⟨w.heap.size, 0, none⟩ = some (.int .u8 (e.k : Int))) := Lib.hid fun X h => (box6 h.ex).1
  have HI : Hid (∀ Y, OS w Y e A n c → Calls Tryz.prog 41 #[exV e A n c] Y fun en w' => ∃ B d q, en = .returned (.slice B q d) ∧ (OwnR w' 47 (w.heap.size + 1) B q d (tkE e) ∧ OKL (tkE e) ∧ (tkE e).length = q ∧ 0 < q ∧ q ≤ 2000) ∧ Below Y.heap.size Y w') := Lib.hid fun Y h => (ih A n c Y (R.keep h.bel) hm ok hsz).mono fun en w' ⟨B, d, h1, h2, h3, h4⟩ => ⟨B, d, _, h1, ⟨h2.base h.lt, h3, rfl, tk_pos ha, by have := tk_bound e ha; omega⟩, h4⟩
  have HG : Hid (∀ (X : World) (B : Option Addr) (q d : Nat) (l : List Tk), OS w X e A n c → OwnR X 47 (w.heap.size + 1) B q d l → opT e = l → OKL l → GivesL w (opT e) (.returned (.slice B q d)) X) := Lib.hid fun X B q d l h o hl k => h.gives o hl k
  have hway : (big e.k = false ∧ opT e = tkE e) ∨ (big e.k = true ∧ opT e = ([lp] ++ tkE e) ++ [rp]) := by
    cases hb : big e.k with
    | false => exact .inl ⟨rfl, op_small hb⟩
    | true => exact .inr ⟨rfl, by rw [op_big hb]; simp⟩
  have hbig : big e.k = (decide (e.k = 6) || (decide (e.k = 7) || (decide (e.k = 8) || decide (e.k = 9)))) := rfl
  rw [hbig] at hway
  clear hbig
  have q6 : ((e.k : Int) == 6) = decide (e.k = 6) := nat_eq10 _ 6
  have q7 : ((e.k : Int) == 7) = decide (e.k = 7) := nat_eq10 _ 7
  have q8 : ((e.k : Int) == 8) = decide (e.k = 8) := nat_eq10 _ 8
  have q9 : ((e.k : Int) == 9) = decide (e.k = 9) := nat_eq10 _ 9
  have HL : Hid (∀ X, OS w X e A n c → OwnR (X.alloc (.cells #[.int .u8 5, .int .i64 0, .string ⟨#[40]⟩, .int .i32 0] 47)) 47 (w.heap.size + 1) (some ⟨X.heap.size, 0, none⟩) 1 1 [lp]) := Lib.hid fun X h => own_lit (rs := [lp]) (boxS_new X _ _) h.lt rfl (by decide)
  have HT := Lib.hid (fun (W : World) => tok1 rp (okx_k (by show (1 : Nat) ≤ maxLen; unfold maxLen; decide) (by decide)) W)
  have HO : Hid (OKL (tkE e) → OKL (([lp] ++ tkE e) ++ [rp])) := Lib.hid fun h => OKL.app (OKL.app (OKL.one (okx_k (by show (1 : Nat) ≤ maxLen; unfold maxLen; decide) (by decide))) h) (OKL.one (okx_k (by show (1 : Nat) ≤ maxLen; unfold maxLen; decide) (by decide)))
  have CL := Lib.hid (fun (W : World) => RSymX_any ⟨#[40]⟩ W)
  have CR := Lib.hid (fun (W : World) => RSymX_any ⟨#[41]⟩ W)
  clear R hm ok hsz ih ha
  generalize GivesL w (opT e) = POST at *
  dsimp only [exV, exC] at *
  generalize strOf e.s = S at *
  generalize decide (e.k = 6) = b6 at *
  generalize decide (e.k = 7) = b7 at *
  generalize decide (e.k = 8) = b8 at *
  generalize decide (e.k = 9) = b9 at *
  rcases hway with ⟨hb, hE⟩ | ⟨hb, hE⟩
  · have HE := Lib.hid hE
    clear hE HL HT HO CL CR
    obtain ⟨rfl, rfl, rfl, rfl⟩ : b6 = false ∧ b7 = false ∧ b8 = false ∧ b9 = false := by cases b6 <;> cases b7 <;> cases b8 <;> cases b9 <;> simp at hb ⊢
    clear hb
    go_enter Tryz.func65, Tryz.ntmps65
    go_wp2_with (go_at_call 41; (with_reducible refine (HI.out _ HV.out).mono ?_); rintro e1 W1 ⟨B1, d1, q1, rfl, r, b⟩; have H1 := Lib.hid (HV.out.step b); have K1 := Lib.hid r; clear b r; have z1 := HC.out _ H1.out)
    first | exact HG.out _ _ _ _ _ H1.out K1.out.1 HE.out K1.out.2.1 | (go_ret; exact HG.out _ _ _ _ _ H1.out K1.out.1 HE.out K1.out.2.1)
  · have HE := Lib.hid hE
    clear hE
    have hw : b6 = true ∨ (b6 = false ∧ b7 = true) ∨ (b6 = false ∧ b7 = false ∧ b8 = true) ∨ (b6 = false ∧ b7 = false ∧ b8 = false ∧ b9 = true) := by cases b6 <;> cases b7 <;> cases b8 <;> cases b9 <;> simp at hb ⊢
    clear hb
    rcases hw with rfl | ⟨rfl, rfl⟩ | ⟨rfl, rfl, rfl⟩ | ⟨rfl, rfl, rfl, rfl⟩
    all_goals
      go_enter Tryz.func65, Tryz.ntmps65
      go_wp2_with (first
        | (go_at_call 41; (with_reducible refine (HI.out _ HV.out).mono ?_); rintro e1 W1 ⟨B1, d1, q1, rfl, r, b⟩; have H1 := Lib.hid (HV.out.step b); have K1 := Lib.hid r; have hq1 := r.2.2.2; clear b r; have z1 := HC.out _ H1.out)
        | (go_at_call 63; (with_reducible refine (CL.out _).mono ?_); rintro e1 W2 ⟨rfl, b⟩; have H2 := Lib.hid (H1.out.step b); have H2a := Lib.hid (H2.out.step (bal (b0 W2) (.cells #[.int .u8 5, .int .i64 0, .string ⟨#[40]⟩, .int .i32 0] 47))); have L2 := Lib.hid (HL.out _ H2.out); have K2 := Lib.hid (((K1.out.1.keep b).keep (bal (b0 W2) (.cells #[.int .u8 5, .int .i64 0, .string ⟨#[40]⟩, .int .i32 0] 47))).rr K1.out.2.1); clear b)
        | (at_builtin; (refine app_rwsG rfl (.tmp 25) (.tmp 26) rfl (w.heap.size + 1) 1 1 q1 d1 (1 + q1) (some ⟨W2.heap.size, 0, none⟩) B1 [lp] (tkE e) rfl rfl L2.out K1.out.2.2.1 K1.out.2.2.2.1 K2.out rfl (by omega) H2a.out.lt ?_; intro A3 c3 W3 o2 g2 gr; have H3 := Lib.hid (H2a.out.app L2.out g2); have L3 := Lib.hid o2; clear o2 g2 gr))
        | (go_at_call 63; (with_reducible refine (CR.out _).mono ?_); rintro e1 W4 ⟨rfl, b⟩; have H4 := Lib.hid (H3.out.step b); have H4a := Lib.hid (H4.out.step (bal (b0 W4) (.cells #[.int .u8 5, .int .i64 0, .string ⟨#[41]⟩, .int .i32 0] 47))); have L4 := Lib.hid ((L3.out.keep b).keep (bal (b0 W4) (.cells #[.int .u8 5, .int .i64 0, .string ⟨#[41]⟩, .int .i32 0] 47))); clear b)
        | (at_builtin; (refine app_rwsG rfl (.tmp 27) (.tmp 29) rfl (w.heap.size + 1) (1 + q1) c3 1 1 (1 + q1 + 1) A3 (some ⟨W4.heap.size, 0, none⟩) ([lp] ++ tkE e) [rp] rfl rfl L4.out rfl (by decide) (HT.out W4) rfl (by omega) H4a.out.lt ?_; intro A5 c5 W5 o2 g2 gr; have H5 := Lib.hid (H4a.out.app L4.out g2); have L5 := Lib.hid o2; clear o2 g2 gr)))
      first | exact HG.out _ _ _ _ _ H5.out L5.out HE.out (HO.out K1.out.2.1) | (go_ret; exact HG.out _ _ _ _ _ H5.out L5.out HE.out (HO.out K1.out.2.1))
/-- The tokens of every valid tree. -/
theorem rl_all : ∀ e : Ex, allE e = true → RLC e := by
  refine Ex.ind fun e ih ha => ?_
  rcases own_ways (all_own ha) with ⟨n, rfl⟩ | ⟨n, h0, h1, rfl⟩ | ⟨n, hn, rfl⟩ | ⟨s, hs, rfl⟩ | ⟨s, y, hs, rfl⟩ | ⟨o, y, h1, h2, rfl⟩ | ⟨o, a, b, h1, h2, rfl⟩ | ⟨t, y, ht, rfl⟩ | ⟨s, hs, rfl⟩
  · exact rl_1 n
  · exact rl_2 n h0 h1
  · exact rl_3 n hn
  · exact rl_4 s
  · exact rl_5 s y (ih y (List.mem_singleton.2 rfl) (all_1 ha)) (all_1 ha)
  · exact rl_6 o h1 h2 y (ro_any y (ih y (List.mem_singleton.2 rfl) (all_1 ha)) (all_1 ha)) (all_1 ha)
  · exact rl_7 o a b (ro_any a (ih a (by show a ∈ [a, b]; simp) (all_2 ha).1) (all_2 ha).1) (ro_any b (ih b (by show b ∈ [a, b]; simp) (all_2 ha).2) (all_2 ha).2) (all_2 ha).1 (all_2 ha).2
  · exact rl_8 t y (ro_any y (ih y (List.mem_singleton.2 rfl) (all_1 ha)) (all_1 ha)) (all_1 ha)
  · exact rl_9 s
theorem may_all {e : Ex} (h : mayE e = true) : allE e = true ∧ szE e ≤ 256 ∧ dpE e ≤ 32 := by
  unfold mayE at h
  simp only [Bool.and_eq_true, decide_eq_true_eq] at h
  exact h
set_option maxRecDepth 100000 in
theorem RToksX_any (e : Ex) (A : Option Addr) (n c : Nat) (w : World) (R : TrR w A c e.l) (hn : e.l.length = n) (ok : OKe e) : Calls Tryz.prog 23 #[exV e A n c] w fun en w' => ∃ B d, en = .returned (.tuple #[.slice B (toksX e).1.length d, .int .i64 (toksX e).2]) ∧ OwnR w' 47 w.heap.size B (toksX e).1.length d (toksX e).1 ∧ OKL (toksX e).1 ∧ Below w.heap.size w w' := by
  have HV : Hid (OS w (w.alloc (.cells (exC e A n c) 27)) e A n c) := Lib.hid ⟨bal (b0 w) _, boxS_new w _ _⟩
  have CM := Lib.hid (RMayX_any e A n c _ (R.keep HV.out.bel) hn ok)
  have HC : Hid (∀ X, OS w X e A n c → X.cell? ⟨w.heap.size, 0, none⟩ = some (.int .u8 (e.k : Int)) ∧ X.cell? ⟨w.heap.size, 1, none⟩ = some (.int .u8 (e.o : Int)) ∧ X.cell? ⟨w.heap.size, 2, none⟩ = some (.int .u8 (e.t : Int)) ∧ X.cell? ⟨w.heap.size, 3, none⟩ = some (.int .i32 e.n) ∧ X.cell? ⟨w.heap.size, 4, none⟩ = some (.string (strOf e.s)) ∧ X.cell? ⟨w.heap.size, 5, none⟩ = some (.slice A n c)) := Lib.hid fun X h => box6 h.ex
  cases hm : mayE e with
  | false =>
    have he : toksX e = ([], 2) := by unfold toksX; rw [hm]; rfl
    rw [he]
    rw [hm] at CM
    clear R hn ok hm he
    dsimp only [exV, exC] at *
    generalize strOf e.s = S at *
    go_enter Tryz.func23, Tryz.ntmps23
    go_wp2_with (go_at_call 13; (with_reducible refine (CM.out).mono ?_); rintro en w2 ⟨rfl, b⟩; have H2 := Lib.hid (HV.out.step b); clear b)
    go_ret2
    exact ⟨none, 0, rfl, ownR_nil _ _ _, OKL.nil, H2.out.bel⟩
  | true =>
    have he : toksX e = (tkE e, 0) := by unfold toksX; rw [if_pos hm]
    have hal := may_all hm
    have CT : Hid (∀ W, OS w W e A n c → Calls Tryz.prog 41 #[exV e A n c] W fun en w' => ∃ B d, en = .returned (.slice B (tkE e).length d) ∧ OwnR w' 47 w.heap.size B (tkE e).length d (tkE e) ∧ OKL (tkE e) ∧ Below w.heap.size w w') := Lib.hid fun W k =>
      (rl_all e hal.1 A n c W (R.keep k.bel) hn ok hal.2.1).mono fun en w' ⟨B, d, h1, h2, h3, h4⟩ => ⟨B, d, h1, h2.base k.bel.size, h3, blw k.bel h4⟩
    rw [he]
    rw [hm] at CM
    clear R hn ok hm he hal
    dsimp only [exV, exC] at *
    generalize strOf e.s = S at *
    generalize (tkE e).length = N at *
    go_enter Tryz.func23, Tryz.ntmps23
    go_wp2_with (first
      | (go_at_call 13; (with_reducible refine (CM.out).mono ?_); rintro en w2 ⟨rfl, b⟩; have H2 := Lib.hid (HV.out.step b); clear b; obtain ⟨z0, z1, z2, z3, z4, z5⟩ := HC.out _ H2.out)
      | (go_at_call 41; (with_reducible refine (CT.out _ H2.out).mono ?_); rintro en w3 ⟨B, d, rfl, o, k, b⟩; have H3 := Lib.hid (And.intro o (And.intro k b)); clear o k b))
    go_ret2
    exact ⟨B, d, rfl, H3.out.1, H3.out.2.1, H3.out.2.2⟩
end Go.Proofs.YtplcmcealeeppaaGreatDoor
